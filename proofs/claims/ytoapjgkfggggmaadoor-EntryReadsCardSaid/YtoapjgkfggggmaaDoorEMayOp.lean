/-
  The contract of entry's MayOp.
-/
import Derived.Test.YtoapjgkfggggmaaDoorESmall
namespace Go.Proofs.YtoapjgkfggggmaaDoor
open Go Go.RowKit

theorem str_empty (s : ByteArray) : s.toList.isEmpty = decide (s.size = 0) := by
  rw [ByteArray.toList_eq]
  obtain ⟨⟨l⟩⟩ := s
  cases l with
  | nil => rfl
  | cons x r =>
    have h : ¬ (ByteArray.size ⟨⟨x :: r⟩⟩ = 0) := fun h => by cases h
    rw [decide_eq_false h]
    rfl
theorem str_ne_empty (s : ByteArray) : (!s.toList.isEmpty) = decide (s.size ≠ 0) := by
  rw [str_empty]
  by_cases h : s.size = 0 <;> simp [h]
theorem opOk_big {k : Nat} {key old val : ByteArray} (h : limK k < key.size ∨ limO k < old.size ∨ limV k < val.size) : opOk k key old val = false := by
  rw [Bool.eq_false_iff]
  intro hk
  have := opOk_iff.1 hk
  unfold limK limO limV at h
  split at h <;> split at h <;> split at h <;> omega
theorem opOk_not_big {k : Nat} {key old val : ByteArray} (h : ¬ (limK k < key.size ∨ limO k < old.size ∨ limV k < val.size)) : opOk k key old val = decide (key.size ≠ 0) := by
  rw [Bool.eq_iff_iff, opOk_iff, decide_eq_true_iff]
  unfold limK limO limV at h
  split at h <;> split at h <;> split at h <;> omega
theorem four_cells {w : World} {g : Nat} {x0 x1 x2 x3 : Value} {t : TypeId} (h : w.heap[g]? = some (.cells #[x0, x1, x2, x3] t (0, 0))) :
    w.cell? ⟨g, 0, none⟩ = some x0 ∧ w.cell? ⟨g, 1, none⟩ = some x1 ∧ w.cell? ⟨g, 2, none⟩ = some x2 ∧ w.cell? ⟨g, 3, none⟩ = some x3 :=
  ⟨cell_of_row w g 0 _ _ _ h, cell_of_row w g 1 _ _ _ h, cell_of_row w g 2 _ _ _ h, cell_of_row w g 3 _ _ _ h⟩
theorem three_cellsE {w : World} {g : Nat} {x0 x1 x2 : Value} {t : TypeId} (h : w.heap[g]? = some (.cells #[x0, x1, x2] t (0, 0))) :
    w.cell? ⟨g, 0, none⟩ = some x0 ∧ w.cell? ⟨g, 1, none⟩ = some x1 ∧ w.cell? ⟨g, 2, none⟩ = some x2 :=
  ⟨cell_of_row w g 0 _ _ _ h, cell_of_row w g 1 _ _ _ h, cell_of_row w g 2 _ _ _ h⟩
theorem heap_ext {w w' : World} {g : Nat} {o : Obj} (h : w.heap[g]? = some o) (k : Ext w w') : w'.heap[g]? = some o := (k.block g (Array.getElem?_eq_some_iff.1 h).1).trans h
set_option maxRecDepth 100000 in
set_option maxHeartbeats 1000000 in
theorem mayOp_any (k : Nat) (key old val : ByteArray) (w : World) :
    Calls Tryd.prog 14 #[.agg #[.int .u8 (k : Int), .string key, .string old, .string val]] w fun e w' => e = .returned (.bool (opOk k key old val)) ∧ Ext w w' := by
  have HE := Lib.hid ((Ext.refl w).alloc (.cells #[.int .u8 (k : Int), .string key, .string old, .string val] 25))
  have HT := Lib.hid (heap_alloc_new w (.cells #[.int .u8 (k : Int), .string key, .string old, .string val] 25))
  obtain ⟨a, ha⟩ : ∃ a, limK k = a := ⟨_, rfl⟩
  obtain ⟨b, hb⟩ : ∃ b, limO k = b := ⟨_, rfl⟩
  obtain ⟨c, hc⟩ : ∃ c, limV k = c := ⟨_, rfl⟩
  obtain ⟨r, hr⟩ : ∃ r, opOk k key old val = r := ⟨_, rfl⟩
  rw [hr]
  have HL := Lib.hid (limits_any k)
  rw [ha, hb, hc] at HL
  have fin : ∀ x y : Bool, x = y → Ending.returned (Value.bool x) = .returned (.bool y) := fun x y h => by rw [h]
  go_enter Tryd.func14, Tryd.ntmps14
  go_wp2_with fail
  refine (HL.out _).mono ?_
  rintro e w1 ⟨rfl, hx⟩
  have hT := heap_ext HT.out hx
  have HE := Lib.hid (HE.out.trans hx)
  have hx2 := (Ext.refl w1).alloc (.cells #[.int .i64 a, .int .i64 b, .int .i64 c] 64)
  have HM := Lib.hid (heap_alloc_new w1 (.cells #[.int .i64 a, .int .i64 b, .int .i64 c] 64))
  have HT := Lib.hid (heap_ext hT hx2)
  obtain ⟨i0, i1, i2, i3⟩ := four_cells HT.out
  have HE := Lib.hid (HE.out.trans hx2)
  clear hx hT hx2
  go_wp2_with fail
  have hsz : (w1.alloc (.cells #[.int .i64 a, .int .i64 b, .int .i64 c] 64)).heap.size = w1.heap.size + 1 := by simp
  generalize (w1.alloc (.cells #[.int .i64 a, .int .i64 b, .int .i64 c] 64)) = w2 at *
  have HF := Lib.hid (heap_alloc_new w2 (.cells #[.int .u8 (k : Int), .string key, .string old, .string val] 66))
  have hsz : w2.heap.size = w1.heap.size + 1 := by assumption
  rw [hsz] at HF
  refine (texts_any _).mono ?_
  rintro e w3 ⟨rfl, hx⟩
  have hx2 := ((Ext.refl w2).alloc (.cells #[.int .u8 (k : Int), .string key, .string old, .string val] 66)).trans hx
  have hF := heap_ext HF.out hx
  have hM := heap_ext HM.out hx2
  have hO := heap_ext HT.out hx2
  have HE := Lib.hid (HE.out.trans hx2)
  clear i0 i1 i2 i3 hx hx2
  obtain ⟨f0, f1, f2, f3⟩ := four_cells hF
  obtain ⟨m0, m1, m2⟩ := three_cellsE hM
  obtain ⟨_, o1, _, _⟩ := four_cells hO
  clear hF hM hO f0
  have t0 := texts_at0
  have t1 := texts_at1
  have t2 := texts_at2
  go_wp2_with fail
  refine wp_loop_rounds 4 ?_
  rw [rounds_succ]
  go_wp2_with fail
  go_region_held3 (fun w' => w'.cell? ⟨w1.heap.size + 1, 1, none⟩ = some (.string key) ∧ w'.cell? ⟨w1.heap.size, 0, none⟩ = some (.int .i64 a))
    (first | with_reducible exact ⟨f1, m0⟩ | go_keep)
    (first
      | (go_at_call 43; ((with_reducible refine (key_of _ _).mono ?_); rintro r w' ⟨rfl, rfl⟩)))
  by_cases q : a < (key.size : Int)
  · have HRF : Hid (r = false) := Lib.hid (by rw [← hr]; exact opOk_big (.inl (by omega)))
    clear ha hb hc hr
    go_wp2_with fail
    go_ret
    exact ⟨fin _ _ HRF.out.symm, by first | exact HE.out.drew | exact HE.out.drew.drew | exact HE.out.drew.drew.drew⟩
  have q0 := q
  clear q
  go_wp2_with fail
  rw [rounds_succ]
  go_wp2_with fail
  go_region_held3 (fun w' => w'.cell? ⟨w1.heap.size + 1, 2, none⟩ = some (.string old) ∧ w'.cell? ⟨w1.heap.size, 1, none⟩ = some (.int .i64 b))
    (first | with_reducible exact ⟨f2, m1⟩ | go_keep)
    (first
      | (go_at_call 44; ((with_reducible refine (old_of _ _).mono ?_); rintro r w' ⟨rfl, rfl⟩)))
  by_cases q : b < (old.size : Int)
  · have HRF : Hid (r = false) := Lib.hid (by rw [← hr]; exact opOk_big (.inr (.inl (by omega))))
    clear ha hb hc hr
    go_wp2_with fail
    go_ret
    exact ⟨fin _ _ HRF.out.symm, by first | exact HE.out.drew | exact HE.out.drew.drew | exact HE.out.drew.drew.drew⟩
  have q1 := q
  clear q
  go_wp2_with fail
  rw [rounds_succ]
  go_wp2_with fail
  go_region_held3 (fun w' => w'.cell? ⟨w1.heap.size + 1, 3, none⟩ = some (.string val) ∧ w'.cell? ⟨w1.heap.size, 2, none⟩ = some (.int .i64 c))
    (first | with_reducible exact ⟨f3, m2⟩ | go_keep)
    (first
      | (go_at_call 45; ((with_reducible refine (val_of _ _).mono ?_); rintro r w' ⟨rfl, rfl⟩)))
  by_cases q : c < (val.size : Int)
  · have HRF : Hid (r = false) := Lib.hid (by rw [← hr]; exact opOk_big (.inr (.inr (by omega))))
    clear ha hb hc hr
    go_wp2_with fail
    go_ret
    exact ⟨fin _ _ HRF.out.symm, by first | exact HE.out.drew | exact HE.out.drew.drew | exact HE.out.drew.drew.drew⟩
  have q2 := q
  clear q
  go_wp2_with fail
  rw [rounds_succ]
  go_wp2_with fail
  go_ret
  refine ⟨fin _ _ ?_, HE.out.drew.drew.drew⟩
  rw [← hr, opOk_not_big (by rw [ha, hb, hc]; omega)]
  exact str_ne_empty key
end Go.Proofs.YtoapjgkfggggmaaDoor
