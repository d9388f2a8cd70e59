/-
  The contract of the program's Where.
  The contract of Seen.
-/
import Derived.Test.YtlikhmhomkiadaaGreatDoorQ22
import Derived.Test.YtlikhmhomkiadaaGreatDoorQ39
import Derived.Deep.MidRow
import Derived.Deep.QuietTactic
namespace Go.Proofs.YtlikhmhomkiadaaGreatDoor
set_option maxRecDepth 100000
open Go Go.RowKit

/-- The cells of the table of regions. -/
def regCells : List Value := [.int .i64 0, .int .i64 0, .int .i64 2, .int .i64 1, .int .i64 2, .int .i64 1, .int .i64 24, .int .i64 1, .int .i64 48, .int .i64 2, .int .i64 16, .int .i64 2]
theorem LaidT.range {w : World} (h : LaidT w) : w.rangeAt 0 0 regCells := by
  intro j v hv
  have hj : j < 12 := (List.getElem?_eq_some_iff.1 hv).1
  have hj' : j = 0 ∨ j = 1 ∨ j = 2 ∨ j = 3 ∨ j = 4 ∨ j = 5 ∨ j = 6 ∨ j = 7 ∨ j = 8 ∨ j = 9 ∨ j = 10 ∨ j = 11 := by omega
  rw [Nat.zero_add, ← hv]
  rcases hj' with rfl | rfl | rfl | rfl | rfl | rfl | rfl | rfl | rfl | rfl | rfl | rfl
  · exact (h 0 (by omega)).1
  · exact (h 0 (by omega)).2
  · exact (h 1 (by omega)).1
  · exact (h 1 (by omega)).2
  · exact (h 2 (by omega)).1
  · exact (h 2 (by omega)).2
  · exact (h 3 (by omega)).1
  · exact (h 3 (by omega)).2
  · exact (h 4 (by omega)).1
  · exact (h 4 (by omega)).2
  · exact (h 5 (by omega)).1
  · exact (h 5 (by omega)).2
theorem reg_size : (Tryz.prog.info? 177).map (·.size) = some regCells.length := by kernel_rfl
theorem reg_index (k : Nat) (hk : k < 6) (w : World) : (Instr.index 177 (.agg regCells.toArray) (.int .i64 k)).run Tryz.prog w = .ok (.agg #[.int .i64 (plc k), .int .i64 (wid k)]) w := by
  have hj' : k = 0 ∨ k = 1 ∨ k = 2 ∨ k = 3 ∨ k = 4 ∨ k = 5 := by omega
  rcases hj' with rfl | rfl | rfl | rfl | rfl | rfl <;> (show _ = _; kernel_rfl)

set_option maxHeartbeats 1600000 in
theorem owhere_any (s : Int) (w : World) (hL : LaidT w) (hs : s ≤ 9223372036854775807) :
    Calls Tryz.prog 58 #[.int .i64 s] w fun e w' => e = .returned (.tuple #[.int .i64 (wReg s), .int .i64 (wPlc s), .int .i64 (wBeh s), .bool (wIs s)]) ∧ Ext w w' := by
  have HL := Lib.hid hL
  clear hL
  by_cases h0 : s < 0
  · have HF := Lib.hid (where_no (s := s) (.inl h0))
    go_enter Tryz.func58, Tryz.ntmps58
    go_wp2_with fail
    exact bodyPost_ret (v := .tuple #[.int .i64 0, .int .i64 0, .int .i64 0, .bool false]) (by simp [results, Tryz.results58, go_sem]) rfl ⟨by rw [HF.out.1, HF.out.2.1, HF.out.2.2.1, HF.out.2.2.2], Ext.refl w⟩
  go_enter Tryz.func58, Tryz.ntmps58
  go_wp2_with (refine wpList_load_mid rfl 177 _ rfl 0 0 rfl regCells _ HL.out.range Tryz.underlying177 rfl reg_size ?_)
  go_loopw [6, 13] (fun b i wr => ∃ k : Nat, k ≤ 6 ∧ i = .int .i64 k ∧ b = .int .i64 (s - beg k) ∧ (beg k : Int) ≤ s ∧ Hid (Ext w wr)) (fun _ i _ => 6 - (intOf i).toNat)
  case atStart => exact ⟨0, Nat.zero_le _, rfl, by rw [show beg ((0 : Nat) : Int) = 0 from rfl]; simp, by rw [show beg ((0 : Nat) : Int) = 0 from rfl]; omega, Lib.hid (Ext.refl w)⟩
  case round =>
    obtain ⟨k, hk, rfl, rfl, hbk, HX⟩ := hrel
    by_cases hlt : k < 6
    · have HI := reg_index k hlt
      have HB := Lib.hid (beg_next k (by omega))
      have hb := beg_le k
      have hp := plc_wid k
      go_wp2_with fail
      refine (sectors_any _ _ _ (by omega)).mono ?_
      rintro e w2 ⟨rfl, hx⟩
      have hz : wr.heap.size < (wr.alloc (.cells #[.int .i64 (plc k), .int .i64 (wid k)] 172)).heap.size := by simp
      have hc0 := (Below.cell hx (p := ⟨wr.heap.size, 0, none⟩) hz).trans (cell_of_row _ wr.heap.size 0 _ 172 (0, 0) (heap_alloc_new wr _))
      have hc1 := (Below.cell hx (p := ⟨wr.heap.size, 1, none⟩) hz).trans (cell_of_row _ wr.heap.size 1 _ 172 (0, 0) (heap_alloc_new wr _))
      have HX := Lib.hid ((HX.out.alloc (.cells #[.int .i64 (plc k), .int .i64 (wid k)] 172)).trans hx)
      clear hx hz
      simp at hc0 hc1
      by_cases hin : s - (beg k : Int) < ((plc k * wid k : Nat) : Int)
      · have hk1 : 1 ≤ k := by
          rcases Nat.eq_zero_or_pos k with rfl | h
          · rw [show beg ((0 : Nat) : Int) = 0 from rfl, show plc ((0 : Nat) : Int) = 0 from rfl] at hin; omega
          · exact h
        have hwp := wid_pos (r := k) (by omega)
        have HW := Lib.hid (where_at hk1 (by omega) hbk hin)
        go_wp2_with fail
        go_quiet (fail)
        go_wp2_with fail
        exact bodyPost_ret (v := .tuple #[.int .i64 k, .int .i64 ((s - beg k) / wid k), .int .i64 ((s - beg k) % wid k), .bool true]) (by simp [results, Tryz.results58, go_sem]) rfl ⟨by rw [HW.out.1, HW.out.2.1, HW.out.2.2.1, HW.out.2.2.2], HX.out.drewN nq⟩
      · go_wp2_with fail
        refine (sectors_any _ _ _ (by omega)).mono ?_
        rintro e w3 ⟨rfl, hx⟩
        have HX := Lib.hid (HX.out.trans hx)
        clear hx
        go_wp2_with fail
        go_roundw
        case rel => exact ⟨k + 1, by omega, by go_num, by rw [show ((k + 1 : Nat) : Int) = (k : Int) + 1 from rfl, HB.out]; go_num, by rw [show ((k + 1 : Nat) : Int) = (k : Int) + 1 from rfl, HB.out]; omega, HX⟩
        case measure => simp [intOf]; omega
    · have HF := Lib.hid (where_no (s := s) (.inr (by
        obtain rfl : k = 6 := by omega
        exact hbk)))
      go_wp2_with fail
      exact bodyPost_ret (v := .tuple #[.int .i64 0, .int .i64 0, .int .i64 0, .bool false]) (by simp [results, Tryz.results58, go_sem]) rfl ⟨by rw [HF.out.1, HF.out.2.1, HF.out.2.2.1, HF.out.2.2.2], HX.out⟩
end Go.Proofs.YtlikhmhomkiadaaGreatDoor

namespace Go.Proofs.YtlikhmhomkiadaaGreatDoor
set_option maxRecDepth 100000
open Go Go.RowKit Go.Shelf
attribute [local go_sem] Oper.semAt_some

theorem where_first {s : Int} (h0 : 0 ≤ s) (h1 : s < 156) : 1 ≤ wReg s ∧ wReg s ≤ 5 ∧ 0 ≤ wPlc s ∧ wPlc s < plc (wReg s) ∧ firstS (wReg s) (wPlc s) ≤ s ∧ s < firstS (wReg s) (wPlc s) + wid (wReg s) ∧ 0 ≤ firstS (wReg s) (wPlc s) := by
  have key : ∀ (r : Int), wReg s = r → 0 ≤ wPlc s ∧ wPlc s < plc r → (beg r : Int) + wPlc s * wid r ≤ s ∧ s < (beg r : Int) + wPlc s * wid r + wid r → 1 ≤ r → r ≤ 5 → 1 ≤ wReg s ∧ wReg s ≤ 5 ∧ 0 ≤ wPlc s ∧ wPlc s < plc (wReg s) ∧ firstS (wReg s) (wPlc s) ≤ s ∧ s < firstS (wReg s) (wPlc s) + wid (wReg s) ∧ 0 ≤ firstS (wReg s) (wPlc s) := by
    intro r hr hp hs h1 h5
    rw [hr, firstS_yes hp]
    have : 0 ≤ wPlc s * (wid r : Int) := Int.mul_nonneg hp.1 (by omega)
    exact ⟨h1, h5, hp.1, hp.2, hs.1, hs.2, by omega⟩
  by_cases c1 : s < 2
  · refine key 1 (by unfold wReg; (repeat' split) <;> omega) ?_ ?_ (by omega) (by omega) <;> (simp [plc, beg, wid]; unfold wPlc; (repeat' split) <;> omega)
  by_cases c2 : s < 4
  · refine key 2 (by unfold wReg; (repeat' split) <;> omega) ?_ ?_ (by omega) (by omega) <;> (simp [plc, beg, wid]; unfold wPlc; (repeat' split) <;> omega)
  by_cases c3 : s < 28
  · refine key 3 (by unfold wReg; (repeat' split) <;> omega) ?_ ?_ (by omega) (by omega) <;> (simp [plc, beg, wid]; unfold wPlc; (repeat' split) <;> omega)
  by_cases c4 : s < 124
  · refine key 4 (by unfold wReg; (repeat' split) <;> omega) ?_ ?_ (by omega) (by omega) <;> (simp [plc, beg, wid]; unfold wPlc; (repeat' split) <;> omega)
  · refine key 5 (by unfold wReg; (repeat' split) <;> omega) ?_ ?_ (by omega) (by omega) <;> (simp [plc, beg, wid]; unfold wPlc; (repeat' split) <;> omega)

theorem sectors_156 (p : Option Addr) (w : World) :
    Calls Tryz.prog 46 #[.pointer p, .int .i64 0, .int .i64 156] w fun e w' => e = .returned (.func (.func 111) #[] #[.pointer (some ⟨w.heap.size + 1, 0, none⟩), .pointer (some ⟨w.heap.size + 1 + 1, 0, none⟩), .pointer (some ⟨w.heap.size, 0, none⟩)]) ∧
      Ext w w' ∧ w'.heap.size = w.heap.size + 3 ∧ w'.cell? ⟨w.heap.size + 1, 0, none⟩ = some (.int .i64 0) ∧ w'.cell? ⟨w.heap.size + 1 + 1, 0, none⟩ = some (.int .i64 156) ∧ w'.cell? ⟨w.heap.size, 0, none⟩ = some (.pointer p) :=
  (sectors_in p 0 156 w).mono fun e w' ⟨he, hw⟩ => ⟨he, by rw [hw]; exact (((Ext.refl w).alloc _).alloc _).alloc _, by rw [hw]; simp, by rw [hw]; simp [go_sem], by rw [hw]; simp [go_sem], by rw [hw]; simp [go_sem]⟩
/-- Each hurt sector's place is detectable. -/
def DM.seenB (m : DM) (r : Int) : Bool := (hurtsIn m.hurt 0 156).all fun s => m.badB r (wReg s) (wPlc s)

theorem sn_ret {b : Nat} {W : World} {a : Act} {D : Nat} {h : Bool} {E : Int} {R : Ending → World → Prop} (h4 : a.tmps.getD 4 undef = .pointer (some ⟨b + 1 + 1, 0, none⟩)) (h5 : a.tmps.getD 5 undef = .pointer (some ⟨b + 1 + 1 + 1, 0, none⟩))
    (hd : a.defers = [{ target := .collected D, args := #[] }]) (hK : W.heap[D]? = some (.deferred (some []))) (c1 : W.cell? ⟨b + 1 + 1, 0, none⟩ = some (.bool h)) (c2 : W.cell? ⟨b + 1 + 1 + 1, 0, none⟩ = some (.int .i64 E))
    (hR : R (.returned (.tuple #[.bool h, .int .i64 E])) (W.putObj D (.deferred none))) : bodyPostM Fence.wide 9 Tryz.prog Tryz.f15 R .ret a W := by
  refine retM1 (v := .tuple #[.bool h, .int .i64 E]) hd hK ?_ hR
  have k1 := cell_kept c1 (grownBy_putObj' _ D (.deferred none)) (fun r e => by cases e; exact ⟨_, hK, rfl⟩)
  have k2 := cell_kept c2 (grownBy_putObj' _ D (.deferred none)) (fun r e => by cases e; exact ⟨_, hK, rfl⟩)
  have h4' : a.tmps[4]?.getD undef = .pointer (some ⟨b + 1 + 1, 0, none⟩) := by simpa using h4
  have h5' : a.tmps[5]?.getD undef = .pointer (some ⟨b + 1 + 1 + 1, 0, none⟩) := by simpa using h5
  simp [results, Tryz.results15, go_sem, h4', h5', k1, k2]

/-- The world behind Seen's first steps: its boxes. -/
def snW (w : World) (p : Option Addr) (r : Int) : World := (((w.alloc (.cells #[.pointer p] 24)).alloc (.cells #[.int .i64 r] 3)).alloc (.cells #[.bool false] 4)).alloc (.cells #[.int .i64 0] 25)
theorem sn_boxes (w : World) (p : Option Addr) (r : Int) : Ext w (snW w p r) ∧ (snW w p r).heap.size = w.heap.size + 4 ∧ (snW w p r).cell? ⟨w.heap.size, 0, none⟩ = some (.pointer p) ∧ (snW w p r).cell? ⟨w.heap.size + 1, 0, none⟩ = some (.int .i64 r) ∧
    (snW w p r).heap[w.heap.size + 1 + 1]? = some (.cells #[.bool false] 4 (0, 0)) ∧ (snW w p r).heap[w.heap.size + 1 + 1 + 1]? = some (.cells #[.int .i64 0] 25 (0, 0)) := by
  refine ⟨((((Ext.refl w).alloc _).alloc _).alloc _).alloc _, by unfold snW; simp, by unfold snW; simp [go_sem], by unfold snW; simp [go_sem], ?_, ?_⟩
  · have h0 := heap_alloc_last ((w.alloc (.cells #[.pointer p] 24)).alloc (.cells #[.int .i64 r] 3)) (.cells #[.bool false] 4)
    rw [World.size_alloc, World.size_alloc] at h0
    exact (Below.heap_alloc _ _ _ (by simp)).trans h0
  · have h0 := heap_alloc_last (((w.alloc (.cells #[.pointer p] 24)).alloc (.cells #[.int .i64 r] 3)).alloc (.cells #[.bool false] 4)) (.cells #[.int .i64 0] 25)
    rw [World.size_alloc, World.size_alloc, World.size_alloc] at h0
    exact h0

set_option maxHeartbeats 800000 in
theorem seen_err {w : World} {p : Option Addr} {sz : Nat} (hS : Sized w p sz) (hL : LaidT w) (r : Int) (hE : knownG sz r ≠ 0) :
    Calls Tryz.prog 15 #[.pointer p, .int .i64 r] w fun e w' => e = .returned (.tuple #[.bool false, .int .i64 (knownG sz r)]) ∧ Ext w w' := by
  obtain ⟨hE0, hsz, b0, b1, b2, b3⟩ := sn_boxes w p r
  have hk := gknown_of (hS.ext hE0) (hL.ext hE0) r
  obtain ⟨E, hEE⟩ : ∃ E, knownG sz r = E := ⟨_, rfl⟩
  rw [hEE] at hk hE ⊢
  have HK := Lib.hid hk
  have HE0 := Lib.hid hE0
  have hne : (E != 0) = true := by simpa using hE
  have HB2 := Lib.hid b2
  have HB3 := Lib.hid b3
  clear hS hL hk hE hEE hE0 b2 b3
  unfold snW at *
  refine calls_marks Tryz.func15 rfl ?_
  simp only [Tryz.ntmps15, List.size_toArray, List.length_cons, List.length_nil, Nat.reduceAdd, Nat.reduceSub, Array.replicate_succ, Array.replicate_zero, List.push_toArray, List.append_toArray, List.nil_append, List.cons_append]
  go_wp2_with fail
  refine HK.out.mono ?_
  rintro e w1 ⟨rfl, hx⟩
  have hz2 := (hx.block _ (by omega)).trans HB2.out
  have hz3 := (hx.block _ (by omega)).trans HB3.out
  have hc2 := cell_of_row _ _ 0 _ _ _ hz2
  have hf2 := frozen_of_row _ _ 0 _ _ hz2
  have hc3 := cell_of_row _ _ 0 _ _ _ hz3
  have hf3 := frozen_of_row _ _ 0 _ _ hz3
  have hl2 := (Array.getElem?_eq_some_iff.1 hz2).1
  have hl3 := (Array.getElem?_eq_some_iff.1 hz3).1
  have HX := Lib.hid (HE0.out.trans hx)
  have HZ2 := Lib.hid hz2
  have HZ3 := Lib.hid hz3
  clear hx hz2 hz3 b0 b1 hsz
  go_wp2_with fail
  have k2 := heap_set (g := w.heap.size + 1 + 1 + 1) (k := 0) (x := .int .i64 E) (show w.heap.size + 1 + 1 ≠ w.heap.size + 1 + 1 + 1 by omega) (row_set 0 HZ2.out (.bool false) rfl)
  have k3 := row_set 0 (heap_set (g := w.heap.size + 1 + 1) (k := 0) (x := .bool false) (show w.heap.size + 1 + 1 + 1 ≠ w.heap.size + 1 + 1 by omega) HZ3.out) (.int .i64 E) rfl
  have hx2 : Ext w ((w1.setCell ⟨w.heap.size + 1 + 1, 0, none⟩ (.bool false)).setCell ⟨w.heap.size + 1 + 1 + 1, 0, none⟩ (.int .i64 E)) := (HX.out.setCell (p := ⟨w.heap.size + 1 + 1, 0, none⟩) (show w.heap.size ≤ w.heap.size + 1 + 1 by omega) _).setCell (p := ⟨w.heap.size + 1 + 1 + 1, 0, none⟩) (show w.heap.size ≤ w.heap.size + 1 + 1 + 1 by omega) _
  have j2 := cell_of_row _ _ 0 _ _ _ k2
  have j3 := cell_of_row _ _ 0 _ _ _ k3
  generalize ((w1.setCell ⟨w.heap.size + 1 + 1, 0, none⟩ (.bool false)).setCell ⟨w.heap.size + 1 + 1 + 1, 0, none⟩ (.int .i64 E)) = X at *
  simp at j2 j3
  refine retM0 (v := .tuple #[.bool false, .int .i64 E]) rfl ?_ ?_
  · simp [results, Tryz.results15, go_sem, j2, j3]
  · exact ⟨rfl, hx2⟩

set_option maxRecDepth 100000 in
set_option maxHeartbeats 2400000 in
theorem seen_yes {w : World} {d : Nat} {F : Nat → Prop} {m : DM} (h : PDisk w d F m) (hL : LaidF w) (r : Int) (hE : knownG m.size r = 0) :
    Calls Tryz.prog 15 #[.pointer (some ⟨d, 0, none⟩), .int .i64 r] w fun e w' => e = .returned (.tuple #[.bool (m.seenB r), .int .i64 0]) ∧ Ext w w' := by
  obtain ⟨hE0, hsz, b0, b1, b2, b3⟩ := sn_boxes w (some ⟨d, 0, none⟩) r
  have hk := gknown_of (Sized.of (h.ext hE0)) (hL.ext hE0).a.t r
  rw [hE] at hk
  have HK := Lib.hid hk
  have HE0 := Lib.hid hE0
  have HB0 := Lib.hid b0
  have HB1 := Lib.hid b1
  have HB2 := Lib.hid b2
  have HB3 := Lib.hid b3
  have H := Lib.hid h
  have HL := Lib.hid hL
  clear h hL hk hE hE0 b2 b3
  unfold snW at *
  refine calls_marks Tryz.func15 rfl ?_
  simp only [Tryz.ntmps15, List.size_toArray, List.length_cons, List.length_nil, Nat.reduceAdd, Nat.reduceSub, Array.replicate_succ, Array.replicate_zero, List.push_toArray, List.append_toArray, List.nil_append, List.cons_append]
  go_wp2_with fail
  refine HK.out.mono ?_
  rintro e w1 ⟨rfl, hx⟩
  have HB0 := Lib.hid (ext_of_cell hx HB0.out)
  have HB1 := Lib.hid (ext_of_cell hx HB1.out)
  have HB2 := Lib.hid ((hx.block _ (by omega)).trans HB2.out)
  have HB3 := Lib.hid ((hx.block _ (by omega)).trans HB3.out)
  have hsz1 := hx.size
  have HX := Lib.hid (HE0.out.trans hx)
  have hc0 := HB0.out
  have HXd : Hid (Ext w w1.drew) := Lib.hid (Below.drew HX.out)
  clear hx b0 b1 HE0 HK
  go_wp2_with fail
  go_region_held3 (fun w' => w'.cell? ⟨w.heap.size, 0, none⟩ = some (.pointer (some ⟨d, 0, none⟩)))
    (first | with_reducible exact hc0 | exact keepD (by assumption) HB0 | go_keep)
    (first
      | (go_at_call 57; ((with_reducible refine (all_any _ (HL.out.ext HXd.out).a.t).mono ?_); rintro e w2 ⟨rfl, hx⟩; have HXk := Lib.hid hx; clear hx))
      | (go_at_call 46; ((with_reducible refine (sectors_156 _ _).mono ?_); rintro e w3 ⟨rfl, hx3, hs3, hw3⟩; have HXk3 : Hid (Ext w1.drew w3) := Lib.hid (HXk.out.trans hx3); have HW3 := Lib.hid hw3; clear hx3 hw3)))
  have hX3 : Ext w w3 := HXd.out.trans HXk3.out
  have HB0 := Lib.hid (ext_of_cell HXk3.out (show w1.drew.cell? ⟨w.heap.size, 0, none⟩ = _ from HB0.out))
  have HB1 := Lib.hid (ext_of_cell HXk3.out (show w1.drew.cell? ⟨w.heap.size + 1, 0, none⟩ = _ from HB1.out))
  have hl0 : w.heap.size + 4 ≤ w3.heap.size := by
    have := HXk3.out.size
    have h2 : w1.drew.heap.size = w1.heap.size := rfl
    omega
  have HB2 := Lib.hid ((HXk3.out.block _ (show w.heap.size + 1 + 1 < w1.drew.heap.size from (Array.getElem?_eq_some_iff.1 HB2.out).1)).trans (show w1.drew.heap[w.heap.size + 1 + 1]? = _ from HB2.out))
  have HB3 := Lib.hid ((HXk3.out.block _ (show w.heap.size + 1 + 1 + 1 < w1.drew.heap.size from (Array.getElem?_eq_some_iff.1 HB3.out).1)).trans (show w1.drew.heap[w.heap.size + 1 + 1 + 1]? = _ from HB3.out))
  have hst := hurt_stops 8 (by omega) (w2.heap.size + 1) (w2.heap.size + 1 + 1) w2.heap.size (fun i => w3.heap.size ≤ i) (some ⟨d, 0, none⟩) 0 156 ⟨by omega, by omega⟩ (by omega) m.hurt w3
    (HurtsOn.of (H.out.ext hX3) (fun i hi hg => absurd ((H.out.ext hX3).lt i hi) (by omega)) 0 156)
    ⟨by omega, by omega, by omega⟩ HW3.out.1 HW3.out.2.1 HW3.out.2.2
  have HST := Lib.hid hst
  have HX3 := Lib.hid hX3
  clear hst hX3 hc0 HXd HXk HXk3 HW3 HX hs3 hsz1 hsz
  go_wp2_with fail
  refine (wpIn_wide (n := 9)).1 ?_
  refine wpIn_rangeFunc_ownG (F := Fence.wide) (n := 9) rfl (by omega) (gf := 111) (lb := #[.pointer (some ⟨w2.heap.size + 1, 0, none⟩), .pointer (some ⟨w2.heap.size + 1 + 1, 0, none⟩), .pointer (some ⟨w2.heap.size, 0, none⟩)]) rfl trivial (enters_of Tryz.func111 (by kernel_rfl) rfl)
    HST.out (fun h k => h.trans k fun _ hi => .inl hi) (fun W l o o' hl ho _ _ => mod_put (w := w3) l o o' (fun k hk => hk) hl ho) (Below.refl _ _) (fun _ => rfl)
    (fun pre V => (∀ x ∈ pre, m.badB r (wReg x.1) (wPlc x.1) = true) ∧ Below w3.heap.size w3 V)
    (fun c pre V => (c = .ret ∧ (∃ x ∈ pre, m.badB r (wReg x.1) (wPlc x.1) = false) ∧ V.cell? ⟨w.heap.size + 1 + 1, 0, none⟩ = some (.bool false) ∧ V.cell? ⟨w.heap.size + 1 + 1 + 1, 0, none⟩ = some (.int .i64 0)) ∧ Below w.heap.size w V)
    (OwnFrom.and (ownFrom_pure _ _) (ownFrom_below (Nat.le_refl _) (Nat.le_refl _)))
    (fun c => OwnFrom.and (fun s X Y row hs hg hrow => ⟨hs.1, hs.2.1, cell_kept hs.2.2.1 hg (fun r e => (hrow r e).2), cell_kept hs.2.2.2 hg (fun r e => (hrow r e).2)⟩) (ownFrom_below (Nat.le_refl _) (by omega)))
    ⟨by simp, Below.refl _ _⟩
    (fun x => { tmps := #[.pointer (some ⟨d, 0, none⟩), .int .i64 r, .pointer (some ⟨w.heap.size, 0, none⟩), .pointer (some ⟨w.heap.size + 1, 0, none⟩), .pointer (some ⟨w.heap.size + 1 + 1, 0, none⟩), .pointer (some ⟨w.heap.size + 1 + 1 + 1, 0, none⟩), .int .i64 0, .int .i64 x.1, undef, undef, undef, undef, .pointer (some ⟨d, 0, none⟩), .int .i64 r, .int .i64 0, .int .i64 0, .bool false, undef, .pointer (some ⟨d, 0, none⟩), .int .i64 156, .func (.func 111) #[] #[.pointer (some ⟨w2.heap.size + 1, 0, none⟩), .pointer (some ⟨w2.heap.size + 1 + 1, 0, none⟩), .pointer (some ⟨w2.heap.size, 0, none⟩)], .int .i64 x.1, undef, undef, undef, undef, undef, undef, undef, undef, undef, undef, undef, undef, undef], defers := [] }) ?assign ?body ?done ?stop
  case assign =>
    intro l x W K hK
    dsimp only [encS]
    gi_wp2
    exact hK
  case body =>
    rintro l pre x V ⟨hp, hB⟩ hlt
    have hV3 : Ext w3 V := hB
    have hVw : Ext w V := HX3.out.trans hV3
    have hx0 := x.2.1
    have hx1 : x.1 < 156 := by have := x.2.2; omega
    have hwh := owhere_any x.1 V (HL.out.ext hVw).a.t (by omega)
    obtain ⟨_, _, _, _, _, _, hfp⟩ := where_first hx0 hx1
    have hbd : ∀ V', Ext V V' → Calls Tryz.prog 51 #[.pointer (some ⟨d, 0, none⟩), .int .i64 r, .int .i64 (wReg x.1), .int .i64 (wPlc x.1)] V' fun e w' => e = .returned (.bool (m.badB r (wReg x.1) (wPlc x.1))) ∧ Ext V' w' := fun V' hx => isBad_of (H.out.ext (hVw.trans hx)) (HL.out.ext (hVw.trans hx)) r _ _ hfp
    obtain ⟨bb, hbb⟩ : ∃ bb, m.badB r (wReg x.1) (wPlc x.1) = bb := ⟨_, rfl⟩
    rw [hbb] at hbd
    have HBBx : Hid (∀ y, y = x → m.badB r (wReg y.1) (wPlc y.1) = bb) := Lib.hid fun y hy => by rw [hy]; exact hbb
    have HBD := Lib.hid hbd
    have HWH := Lib.hid hwh
    have HP := Lib.hid hp
    have HV3 := Lib.hid hV3
    have HVw := Lib.hid hVw
    have c0 := ext_of_cell hV3 HB0.out
    have c1 := ext_of_cell hV3 HB1.out
    have h7 : 1 ≤ 9 - 1 - 1 := by omega
    clear hbb hbd hwh hp hV3 hVw hfp hB hx0 hx1
    generalize wReg x.1 = rg at *
    generalize wPlc x.1 = pc at *
    generalize wBeh x.1 = bh at *
    generalize wIs x.1 = is at *
    cases bb with
    | true =>
      gi_wp2_with (first
        | (refine ⟨trivial, ?_⟩; gi_at_call 58; refine (CallsIn.inRound l (callsIn_wide.2 HWH.out)).mono ?_; rintro e V1 ⟨rfl, hx1⟩; have HX1 := Lib.hid hx1; have c0 := ext_of_cell hx1 c0; have c1 := ext_of_cell hx1 c1; clear hx1)
        | (refine ⟨trivial, ?_⟩; gi_at_call 51; refine (CallsIn.inRound l (callsIn_wide.2 (HBD.out _ HX1.out))).mono ?_; rintro e V2 ⟨rfl, hx2⟩; have HX2 := Lib.hid (HX1.out.trans hx2); clear hx2))
      exact ⟨KeepsFrom.of_grownBy (grown_of_ext HX2.out) (fun j e => by cases e), Mod.of_ext HX2.out, fun y hy => by
        rcases List.mem_append.1 hy with h | h
        · exact HP.out y h
        · exact HBBx.out y (List.mem_singleton.1 h), HV3.out.trans HX2.out⟩
    | false =>
      have HZ2 : Hid (V.heap[w.heap.size + 1 + 1]? = some (.cells #[.bool false] 4 (0, 0))) := Lib.hid ((HV3.out.block _ (Array.getElem?_eq_some_iff.1 HB2.out).1).trans HB2.out)
      have HZ3 : Hid (V.heap[w.heap.size + 1 + 1 + 1]? = some (.cells #[.int .i64 0] 25 (0, 0))) := Lib.hid ((HV3.out.block _ (Array.getElem?_eq_some_iff.1 HB3.out).1).trans HB3.out)
      gi_wp2_with (first
        | (refine ⟨trivial, ?_⟩; gi_at_call 58; refine (CallsIn.inRound l (callsIn_wide.2 HWH.out)).mono ?_; rintro e V1 ⟨rfl, hx1⟩; have HX1 := Lib.hid hx1; have c0 := ext_of_cell hx1 c0; have c1 := ext_of_cell hx1 c1; clear hx1)
        | (refine ⟨trivial, ?_⟩; gi_at_call 51; refine (CallsIn.inRound l (callsIn_wide.2 (HBD.out _ HX1.out))).mono ?_; rintro e V2 ⟨rfl, hx2⟩; have HX2 := Lib.hid (HX1.out.trans hx2); clear hx2; have HZ2 := Lib.hid ((HX2.out.block _ (Array.getElem?_eq_some_iff.1 HZ2.out).1).trans HZ2.out); have HZ3 := Lib.hid ((HX2.out.block _ (Array.getElem?_eq_some_iff.1 HZ3.out).1).trans HZ3.out); have hc2 := cell_of_row _ _ 0 _ _ _ HZ2.out; have hf2 := frozen_of_row _ _ 0 _ _ HZ2.out; have hl2 := (Array.getElem?_eq_some_iff.1 HZ2.out).1; have hc3 := cell_of_row _ _ 0 _ _ _ HZ3.out; have hf3 := frozen_of_row _ _ 0 _ _ HZ3.out; have hl3 := (Array.getElem?_eq_some_iff.1 HZ3.out).1))
      have k2 := heap_set (g := w.heap.size + 1 + 1 + 1) (k := 0) (x := .int .i64 0) (show w.heap.size + 1 + 1 ≠ w.heap.size + 1 + 1 + 1 by omega) (row_set 0 HZ2.out (.bool false) rfl)
      have k3 := row_set 0 (heap_set (g := w.heap.size + 1 + 1) (k := 0) (x := .bool false) (show w.heap.size + 1 + 1 + 1 ≠ w.heap.size + 1 + 1 by omega) HZ3.out) (.int .i64 0) rfl
      refine ⟨(KeepsFrom.of_grownBy (grown_of_ext HX2.out) (fun j e => by cases e)).trans (((KeepsOthers.setCell _ _ _).trans (KeepsOthers.setCell _ _ _)).from _), ⟨rfl, ⟨x, by simp, HBBx.out x rfl⟩, cell_of_row _ _ 0 _ _ _ k2, cell_of_row _ _ 0 _ _ _ k3⟩, ?_⟩
      have hx2 := HVw.out.trans HX2.out
      exact (hx2.setCell (p := ⟨w.heap.size + 1 + 1, 0, none⟩) (show w.heap.size ≤ w.heap.size + 1 + 1 by omega) _).setCell (p := ⟨w.heap.size + 1 + 1 + 1, 0, none⟩) (show w.heap.size ≤ w.heap.size + 1 + 1 + 1 by omega) _
  case done =>
    rintro D ys V hD hys ⟨hp, hB⟩ hK
    have hV3 : Ext w3 V := hB
    have HVw : Hid (Ext w V) := Lib.hid (HX3.out.trans hV3)
    have HZ2 : Hid (V.heap[w.heap.size + 1 + 1]? = some (.cells #[.bool false] 4 (0, 0))) := Lib.hid ((hV3.block _ (Array.getElem?_eq_some_iff.1 HB2.out).1).trans HB2.out)
    have HZ3 : Hid (V.heap[w.heap.size + 1 + 1 + 1]? = some (.cells #[.int .i64 0] 25 (0, 0))) := Lib.hid ((hV3.block _ (Array.getElem?_eq_some_iff.1 HB3.out).1).trans HB3.out)
    have HSB : Hid (m.seenB r = true) := Lib.hid (by
      unfold DM.seenB
      rw [← hys, List.all_eq_true]
      intro s hs
      obtain ⟨x, hx, rfl⟩ := List.mem_map.1 hs
      exact hp x hx)
    have hc2 := cell_of_row _ _ 0 _ _ _ HZ2.out
    have hf2 := frozen_of_row _ _ 0 _ _ HZ2.out
    have hl2 := (Array.getElem?_eq_some_iff.1 HZ2.out).1
    have hc3 := cell_of_row _ _ 0 _ _ _ HZ3.out
    have hf3 := frozen_of_row _ _ 0 _ _ HZ3.out
    have hl3 := (Array.getElem?_eq_some_iff.1 HZ3.out).1
    have HK := Lib.hid hK
    clear hys hp hB hV3 hK
    go_wp2_with fail
    have k2 := heap_set (g := w.heap.size + 1 + 1 + 1) (k := 0) (x := .int .i64 0) (show w.heap.size + 1 + 1 ≠ w.heap.size + 1 + 1 + 1 by omega) (row_set 0 HZ2.out (.bool true) rfl)
    have k3 := row_set 0 (heap_set (g := w.heap.size + 1 + 1) (k := 0) (x := .bool true) (show w.heap.size + 1 + 1 + 1 ≠ w.heap.size + 1 + 1 by omega) HZ3.out) (.int .i64 0) rfl
    have kK := heap_set (g := w.heap.size + 1 + 1 + 1) (k := 0) (x := .int .i64 0) (show D ≠ w.heap.size + 1 + 1 + 1 by omega) (heap_set (g := w.heap.size + 1 + 1) (k := 0) (x := .bool true) (show D ≠ w.heap.size + 1 + 1 by omega) HK.out)
    have hx2 : Ext w ((V.setCell ⟨w.heap.size + 1 + 1, 0, none⟩ (.bool true)).setCell ⟨w.heap.size + 1 + 1 + 1, 0, none⟩ (.int .i64 0)) := (HVw.out.setCell (p := ⟨w.heap.size + 1 + 1, 0, none⟩) (show w.heap.size ≤ w.heap.size + 1 + 1 by omega) _).setCell (p := ⟨w.heap.size + 1 + 1 + 1, 0, none⟩) (show w.heap.size ≤ w.heap.size + 1 + 1 + 1 by omega) _
    refine sn_ret rfl rfl rfl kK (cell_of_row _ _ 0 _ _ _ k2) (cell_of_row _ _ 0 _ _ _ k3) ?_
    exact ⟨by rw [HSB.out], ext_put hx2 (by omega) kK⟩
  case stop =>
    rintro D cd pre V hD hpre ⟨⟨rfl, ⟨x, hx, hbx⟩, c2, c3⟩, hB⟩ hK
    have HSB : Hid (m.seenB r = false) := Lib.hid (by
      unfold DM.seenB
      rw [List.all_eq_false]
      exact ⟨x.1, hpre.subset (List.mem_map.2 ⟨x, hx, rfl⟩), by rw [hbx]; simp⟩)
    clear hpre hx hbx
    gi_wp2
    refine sn_ret rfl rfl rfl hK c2 c3 ?_
    exact ⟨by rw [HSB.out], ext_put hB (by omega) hK⟩
end Go.Proofs.YtlikhmhomkiadaaGreatDoor
