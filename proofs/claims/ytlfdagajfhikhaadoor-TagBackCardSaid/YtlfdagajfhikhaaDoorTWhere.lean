/-
  The contract of the program's Where.
-/
import Derived.Test.YtlfdagajfhikhaaDoorTFirst
import Derived.Deep.MidRow
import Derived.Deep.QuietTactic
namespace Go.Proofs.YtlfdagajfhikhaaDoor
open Go Go.RowKit

/-- The cells of the table of regions. -/
def regCells : List Value := [.int .i64 0, .int .i64 0, .int .i64 2, .int .i64 1, .int .i64 2, .int .i64 1, .int .i64 24, .int .i64 1, .int .i64 48, .int .i64 2, .int .i64 16, .int .i64 2]
theorem LaidT.range {w : World} (h : LaidT w) : w.rangeAt 1 0 regCells := by
  intro j v hv
  have hj : j < 12 := (List.getElem?_eq_some_iff.1 hv).1
  have hj' : j = 0 ∨ j = 1 ∨ j = 2 ∨ j = 3 ∨ j = 4 ∨ j = 5 ∨ j = 6 ∨ j = 7 ∨ j = 8 ∨ j = 9 ∨ j = 10 ∨ j = 11 := by omega
  rw [Nat.zero_add, ← hv]
  rcases hj' with rfl | rfl | rfl | rfl | rfl | rfl | rfl | rfl | rfl | rfl | rfl | rfl
  · exact (h 0 (by omega)).1
  · exact (h 0 (by omega)).2
  · exact (h 1 (by omega)).1
  · exact (h 1 (by omega)).2
  · exact (h 2 (by omega)).1
  · exact (h 2 (by omega)).2
  · exact (h 3 (by omega)).1
  · exact (h 3 (by omega)).2
  · exact (h 4 (by omega)).1
  · exact (h 4 (by omega)).2
  · exact (h 5 (by omega)).1
  · exact (h 5 (by omega)).2
theorem reg_size : (Tryd.prog.info? 62).map (·.size) = some regCells.length := by kernel_rfl
theorem reg_index (k : Nat) (hk : k < 6) (w : World) : (Instr.index 62 (.agg regCells.toArray) (.int .i64 k)).run Tryd.prog w = .ok (.agg #[.int .i64 (plc k), .int .i64 (wid k)]) w := by
  have hj' : k = 0 ∨ k = 1 ∨ k = 2 ∨ k = 3 ∨ k = 4 ∨ k = 5 := by omega
  rcases hj' with rfl | rfl | rfl | rfl | rfl | rfl <;> (show _ = _; kernel_rfl)

set_option maxHeartbeats 1600000 in
theorem owhere_any (s : Int) (w : World) (hL : LaidT w) (hs : s ≤ 9223372036854775807) :
    Calls Tryd.prog 17 #[.int .i64 s] w fun e w' => e = .returned (.tuple #[.int .i64 (wReg s), .int .i64 (wPlc s), .int .i64 (wBeh s), .bool (wIs s)]) ∧ Ext w w' := by
  have HL := Lib.hid hL
  clear hL
  by_cases h0 : s < 0
  · have HF := Lib.hid (where_no (s := s) (.inl h0))
    go_enter Tryd.func17, Tryd.ntmps17
    go_wp2_with fail
    exact bodyPost_ret (v := .tuple #[.int .i64 0, .int .i64 0, .int .i64 0, .bool false]) (by simp [results, Tryd.results17, go_sem]) rfl ⟨by rw [HF.out.1, HF.out.2.1, HF.out.2.2.1, HF.out.2.2.2], Ext.refl w⟩
  go_enter Tryd.func17, Tryd.ntmps17
  go_wp2_with (refine wpList_load_mid rfl 62 _ rfl 1 0 rfl regCells _ HL.out.range Tryd.underlying62 rfl reg_size ?_)
  go_loopw [6, 13] (fun b i wr => ∃ k : Nat, k ≤ 6 ∧ i = .int .i64 k ∧ b = .int .i64 (s - beg k) ∧ (beg k : Int) ≤ s ∧ Hid (Ext w wr)) (fun _ i _ => 6 - (intOf i).toNat)
  case atStart => exact ⟨0, Nat.zero_le _, rfl, by rw [show beg ((0 : Nat) : Int) = 0 from rfl]; simp, by rw [show beg ((0 : Nat) : Int) = 0 from rfl]; omega, Lib.hid (Ext.refl w)⟩
  case round =>
    obtain ⟨k, hk, rfl, rfl, hbk, HX⟩ := hrel
    by_cases hlt : k < 6
    · have HI := reg_index k hlt
      have HB := Lib.hid (beg_next k (by omega))
      have hb := beg_le k
      have hp := plc_wid k
      go_wp2_with fail
      refine (sectors_any _ _ _ (by omega)).mono ?_
      rintro e w2 ⟨rfl, hx⟩
      have hz : wr.heap.size < (wr.alloc (.cells #[.int .i64 (plc k), .int .i64 (wid k)] 61)).heap.size := by simp
      have hc0 := (Below.cell hx (p := ⟨wr.heap.size, 0, none⟩) hz).trans (cell_of_row _ wr.heap.size 0 _ 61 (0, 0) (heap_alloc_new wr _))
      have hc1 := (Below.cell hx (p := ⟨wr.heap.size, 1, none⟩) hz).trans (cell_of_row _ wr.heap.size 1 _ 61 (0, 0) (heap_alloc_new wr _))
      have HX := Lib.hid ((HX.out.alloc (.cells #[.int .i64 (plc k), .int .i64 (wid k)] 61)).trans hx)
      clear hx hz
      simp at hc0 hc1
      by_cases hin : s - (beg k : Int) < ((plc k * wid k : Nat) : Int)
      · have hk1 : 1 ≤ k := by
          rcases Nat.eq_zero_or_pos k with rfl | h
          · rw [show beg ((0 : Nat) : Int) = 0 from rfl, show plc ((0 : Nat) : Int) = 0 from rfl] at hin; omega
          · exact h
        have hwp := wid_pos (r := k) (by omega)
        have HW := Lib.hid (where_at hk1 (by omega) hbk hin)
        go_wp2_with fail
        go_quiet (fail)
        go_wp2_with fail
        exact bodyPost_ret (v := .tuple #[.int .i64 k, .int .i64 ((s - beg k) / wid k), .int .i64 ((s - beg k) % wid k), .bool true]) (by simp [results, Tryd.results17, go_sem]) rfl ⟨by rw [HW.out.1, HW.out.2.1, HW.out.2.2.1, HW.out.2.2.2], HX.out.drewN nq⟩
      · go_wp2_with fail
        refine (sectors_any _ _ _ (by omega)).mono ?_
        rintro e w3 ⟨rfl, hx⟩
        have HX := Lib.hid (HX.out.trans hx)
        clear hx
        go_wp2_with fail
        go_roundw
        case rel => exact ⟨k + 1, by omega, by go_num, by rw [show ((k + 1 : Nat) : Int) = (k : Int) + 1 from rfl, HB.out]; go_num, by rw [show ((k + 1 : Nat) : Int) = (k : Int) + 1 from rfl, HB.out]; omega, HX⟩
        case measure => simp [intOf]; omega
    · have HF := Lib.hid (where_no (s := s) (.inr (by
        obtain rfl : k = 6 := by omega
        exact hbk)))
      go_wp2_with fail
      exact bodyPost_ret (v := .tuple #[.int .i64 0, .int .i64 0, .int .i64 0, .bool false]) (by simp [results, Tryd.results17, go_sem]) rfl ⟨by rw [HF.out.1, HF.out.2.1, HF.out.2.2.1, HF.out.2.2.2], HX.out⟩
end Go.Proofs.YtlfdagajfhikhaaDoor
