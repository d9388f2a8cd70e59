/-
  The contract of the frame statements' own first look at the chapter's examples: it answers true and writes nothing that was there.
-/
import Derived.Test.YtgcjilifmcianaaDoorFOpen
import Derived.Test.YtgcjilifmcianaaDoorSC
import Derived.Deep.RegionHeld3
namespace Go.Proofs.YtgcjilifmcianaaDoor
open Go Go.RowKit

/-- The chapter's frame: what is asked of it. -/
def exF : List Nat := sealL 1 4 47 258 3 [7] 2
theorem exF_len : exF.length = 128 := by decide +kernel
theorem exF_e : sealE 1 4 47 258 3 1 2 = 0 := by decide
theorem exF_head : exF.take 18 = [1, 0, 1, 4, 47, 2, 1, 0, 0, 0, 0, 3, 0, 0, 0, 0, 0, 7] := by decide +kernel
theorem exF_pad : (exF.drop 18).take 106 = List.replicate 106 0 := by decide +kernel
theorem exF_good : goodB exF = true := by decide +kernel
theorem exF_index : ofl exF 3 = 258 := by decide +kernel
theorem exF_body : obl exF = [7] := by decide +kernel

theorem u8_size (w : World) : (sizeOf (Tryd.prog.elem 24)).run Tryd.prog w = .ok 1 w := by
  have ht : Tryd.prog.elem 24 = 5 := by kernel_rfl
  obtain ⟨i0, hi, _, hz1, _⟩ := info_parts byte_info
  rw [ht]
  simp [Go.sizeOf, typeInfo, hi, hz1]
theorem cut_to (A : Option Addr) (n cp h : Nat) (hh : h ≤ cp) (w : World) : (Instr.slice 24 (.slice A n cp) none (some (.int .i64 (h : Int))) none).run Tryd.prog w = .ok (.slice A h cp) w := by
  have ht : Tryd.prog.elem 24 = 5 := by kernel_rfl
  rw [run_slice_h w 24 A n cp (by rw [ht]; exact Tryd.underlying24) .i64 (h : Int) (by omega) (by omega), u8_size]
  simp only [Result.andThen, sliced, Int.toNat_natCast, Nat.sub_zero]
  cases A with
  | none => simp
  | some a => simp [Addr.add]
theorem cut_mid (g o n cp l h : Nat) (hl : l < cp) (hlh : l ≤ h) (hh : h ≤ cp) (w : World) : (Instr.slice 24 (.slice (some ⟨g, o, none⟩) n cp) (some (.int .i64 (l : Int))) (some (.int .i64 (h : Int))) none).run Tryd.prog w = .ok (.slice (some ⟨g, o + l, none⟩) (h - l) (cp - l)) w := by
  have ht : Tryd.prog.elem 24 = 5 := by kernel_rfl
  rw [run_slice_lh w 24 (some ⟨g, o, none⟩) n cp (by rw [ht]; exact Tryd.underlying24) .i64 .i64 (l : Int) (h : Int) (by omega) (by omega) (by omega), u8_size]
  simp only [Result.andThen, sliced, Int.toNat_natCast, Nat.mul_one]
  rw [if_neg (by omega)]
  simp [Addr.add]

/-- A new row of zero bytes. -/
def zrow (k : Nat) : Obj := .cells (madeCells #[.int .u8 0] k) 5
theorem mk_zeros (k : Nat) (hk : k ≤ 1000) (w : World) : (Instr.makeSlice 24 (.int .i64 (k : Int)) (.int .i64 (k : Int))).run Tryd.prog w = .ok (.slice (some ⟨w.heap.size, 0, none⟩) k k) (w.alloc (zrow k)) := by
  obtain ⟨i0, hi, hz0, hz1, hz2⟩ := info_parts byte_info
  rw [run_make w 24 5 i0 (.int .u8 0) Tryd.underlying24 hi hz0 .i64 .i64 (k : Int) (k : Int) (by omega) (Int.le_refl _) (by rw [hz2]; omega) (by omega), hz1, Int.toNat_natCast, Nat.mul_one]
  rfl
theorem By.zrow (w : World) (k : Nat) (hk : k ≤ 1000) : By (w.alloc (zrow k)) (some ⟨w.heap.size, 0, none⟩) k k (List.replicate k 0) := by
  refine By.of_row (heap_alloc_new w (.cells (madeCells #[.int .u8 0] k) 5)) (fun j x hx => ?_) (by intro b hb; rw [(List.mem_replicate.1 hb).2]; omega) (by simp) (Nat.le_refl _) (by omega)
  have e : (madeCells #[Value.int .u8 0] k).toList = List.replicate k (Value.int .u8 0) := toList_madeCells_one _ _
  rw [← Array.getElem?_toList, e]
  rw [List.getElem?_replicate] at hx ⊢
  split at hx
  · rename_i hj
    injection hx with hx
    subst hx
    rw [if_pos hj]
    rfl
  · cases hx

theorem By.zrow2 (w : World) (o : Obj) (k : Nat) (hk : k ≤ 1000) : By ((w.alloc o).alloc (Go.Proofs.YtgcjilifmcianaaDoor.zrow k)) (some ⟨w.heap.size + 1, 0, none⟩) k k (List.replicate k 0) := by
  rw [show w.heap.size + 1 = (w.alloc o).heap.size from by simp]
  exact By.zrow _ k hk

set_option maxRecDepth 100000 in
set_option maxHeartbeats 6400000 in
theorem fawake_any (w : World) (hL : LaidF w) : Calls Tryd.prog 20 #[] w fun e w' => e = .returned (.bool true) ∧ Ext w w' := by
  have HL := Lib.hid hL
  clear hL
  go_enter Tryd.func20, Tryd.ntmps20
  go_wp2_with fail
  have HY := Lib.hid ((Ext.refl w).alloc (.cells #[.int .u8 7] 5))
  refine (seal_any 1 4 47 258 3 2 _ 1 1 [7] _ (HL.out.ext HY.out) (By.lit w [7] 5 (by decide) (by decide) _ rfl)).mono ?_
  rw [show sealL 1 4 47 258 3 [7] 2 = exF from rfl, exF_len, exF_e]
  rintro r w1 ⟨A1, c1, rfl, hb1, hx⟩
  have HB := Lib.hid hb1
  have HE := Lib.hid (HY.out.trans hx)
  have hc1 : 128 ≤ c1 := hb1.cap
  have hcm : c1 ≤ 9223372036854775807 := hb1.most
  clear hx hb1 HY
  go_wp2_with fail
  obtain ⟨g, o, x0, hA, _⟩ := HB.out.rd.at_ (k := 0) (by rw [HB.out.len]; omega)
  subst hA
  have hH : By w1 (some ⟨g, o, none⟩) 18 c1 [1, 0, 1, 4, 47, 2, 1, 0, 0, 0, 0, 3, 0, 0, 0, 0, 0, 7] := by have := HB.out.drop_last 18 (by omega); rwa [exF_head] at this
  have hP : By w1 (some ⟨g, o + 18, none⟩) 106 (c1 - 18) (List.replicate 106 0) := by have := HB.out.sub 18 106 (c1 - 18) (by omega) (by omega) (by omega); rwa [exF_pad] at this
  have hs1 : ∀ w, (Instr.slice 24 (.slice (some ⟨g, o, none⟩) 128 c1) none (some (.int .i64 18)) none).run Tryd.prog w = .ok (.slice (some ⟨g, o, none⟩) 18 c1) w := cut_to _ 128 c1 18 (by omega)
  have hs2 : ∀ w, (Instr.slice 24 (.slice (some ⟨g, o, none⟩) 128 c1) (some (.int .i64 18)) (some (.int .i64 124)) none).run Tryd.prog w = .ok (.slice (some ⟨g, o + 18, none⟩) 106 (c1 - 18)) w := cut_mid g o 128 c1 18 124 (by omega) (by omega) (by omega)
  have HH := Lib.hid hH
  have HP := Lib.hid hP
  have hS : Hid (Ext w1 w1.drew) := Lib.hid ((Ext.refl w1).drew)
  have HX1 : Hid (Ext w1 (w1.alloc (.cells #[.int .u8 1, .int .u8 0, .int .u8 1, .int .u8 4, .int .u8 47, .int .u8 2, .int .u8 1, .int .u8 0, .int .u8 0, .int .u8 0, .int .u8 0, .int .u8 3, .int .u8 0, .int .u8 0, .int .u8 0, .int .u8 0, .int .u8 0, .int .u8 7] 5)).drew) := Lib.hid (((Ext.refl w1).alloc _).drew)
  have HY1 : Hid (By (w1.alloc (.cells #[.int .u8 1, .int .u8 0, .int .u8 1, .int .u8 4, .int .u8 47, .int .u8 2, .int .u8 1, .int .u8 0, .int .u8 0, .int .u8 0, .int .u8 0, .int .u8 3, .int .u8 0, .int .u8 0, .int .u8 0, .int .u8 0, .int .u8 0, .int .u8 7] 5)).drew (some ⟨w1.heap.size, 0, none⟩) 18 18 [1, 0, 1, 4, 47, 2, 1, 0, 0, 0, 0, 3, 0, 0, 0, 0, 0, 7]) := Lib.hid ((By.lit w1 [1, 0, 1, 4, 47, 2, 1, 0, 0, 0, 0, 3, 0, 0, 0, 0, 0, 7] 5 (by decide) (by decide) _ rfl).ext ((Ext.refl _).drew))
  clear hH hP
  have mk106 : ∀ w, (Instr.makeSlice 24 (.int .i64 106) (.int .i64 106)).run Tryd.prog w = .ok (.slice (some ⟨w.heap.size, 0, none⟩) 106 106) (w.alloc (zrow 106)) := mk_zeros 106 (by omega)
  go_region_held3 (fun w' => Hid (Ext w1 w'))
    (first | with_reducible exact hS | with_reducible exact HX1 | with_reducible exact Lib.hid (HX1.out.trans hx) | with_reducible exact Lib.hid ((HX1.out.trans hx).alloc _) | with_reducible exact Lib.hid (HX2.out.trans hx2) | go_keep)
    (first
      | (go_at_call 15; ((with_reducible refine (same_by (some ⟨g, o, none⟩) _ [1, 0, 1, 4, 47, 2, 1, 0, 0, 0, 0, 3, 0, 0, 0, 0, 0, 7] [1, 0, 1, 4, 47, 2, 1, 0, 0, 0, 0, 3, 0, 0, 0, 0, 0, 7] 18 18 c1 18 _ ?_ ?_).mono ?_); (exact HH.out.ext HX1.out); (exact HY1.out); rw [decide_eq_true (rfl : [1, 0, 1, 4, 47, 2, 1, 0, 0, 0, 0, 3, 0, 0, 0, 0, 0, 7] = ([1, 0, 1, 4, 47, 2, 1, 0, 0, 0, 0, 3, 0, 0, 0, 0, 0, 7] : List Nat))]; rintro r w2 ⟨rfl, hx⟩))
      | (go_at_call 15; (have HX2 : Hid (Ext w1 (w2.alloc (zrow 106))) := Lib.hid ((HX1.out.trans hx).alloc _)); ((with_reducible refine (same_by (some ⟨g, o + 18, none⟩) _ (List.replicate 106 0) (List.replicate 106 0) 106 106 (c1 - 18) 106 _ ?_ ?_).mono ?_); (exact HP.out.ext HX2.out); (exact By.zrow w2 106 (by omega)); rw [decide_eq_true (rfl : List.replicate 106 0 = (List.replicate 106 0 : List Nat))]; rintro r w3 ⟨rfl, hx2⟩)))
  have HE := Lib.hid (HE.out.trans (HX2.out.trans hx2))
  have HB := Lib.hid (HB.out.ext (HX2.out.trans hx2))
  clear hS hx hx2 HX1 HX2 HY1 HH HP hs1 hs2 mk106
  have mk64 : ∀ w, (Instr.makeSlice 24 (.int .i64 64) (.int .i64 64)).run Tryd.prog w = .ok (.slice (some ⟨w.heap.size, 0, none⟩) 64 64) (w.alloc (zrow 64)) := mk_zeros 64 (by omega)
  have mk63 : ∀ w, (Instr.makeSlice 24 (.int .i64 63) (.int .i64 63)).run Tryd.prog w = .ok (.slice (some ⟨w.heap.size, 0, none⟩) 63 63) (w.alloc (zrow 63)) := mk_zeros 63 (by omega)
  go_wp2_with fail
  refine (open_early _ 64 64 (List.replicate 64 0) _ (By.zrow w3 64 (by omega)) (.inr (by decide +kernel))).mono ?_
  rw [show stN (List.replicate 64 0) = 0 by decide +kernel]
  rintro r w4 ⟨rfl, hx⟩
  have hx := (((Ext.refl w3).alloc (zrow 64)).trans hx).alloc (.cells #[.int .i64 0, .int .i64 0, .int .i64 0, .int .i64 0, .int .i64 0] 23)
  have HE := Lib.hid (HE.out.trans hx)
  have HB := Lib.hid (HB.out.ext hx)
  clear hx
  go_wp2_with fail
  refine (open_early _ 63 63 (List.replicate 63 0) _ (By.zrow2 w4 _ 63 (by omega)) (.inl (by decide +kernel))).mono ?_
  rw [show stN (List.replicate 63 0) = 2 by decide +kernel]
  rintro r w5 ⟨rfl, hx⟩
  have hx := (((Ext.refl _).alloc (zrow 63)).trans hx).alloc (.cells #[.int .i64 0, .int .i64 0, .int .i64 0, .int .i64 0, .int .i64 0] 23)
  have HE := Lib.hid (HE.out.trans hx)
  have HB := Lib.hid (HB.out.ext hx)
  clear hx mk64 mk63
  go_wp2_with fail
  generalize (w5.alloc (.cells #[.int .i64 0, .int .i64 0, .int .i64 0, .int .i64 0, .int .i64 0] 23)) = W5 at *
  refine (open_any _ 128 c1 exF _ (HL.out.ext HE.out) HB.out).mono ?_
  rw [stN_good exF_good, exF_index, exF_body]
  rintro r w6 ⟨A6, N6, rfl, hb6, _, hx⟩
  obtain rfl : N6 = 1 := hb6.len.symm
  generalize ofl exF 0 = f0
  generalize ofl exF 1 = f1
  generalize ofl exF 2 = f2
  generalize ofl exF 4 = f4
  have hr := heap_alloc_new w6 (.cells #[.int .i64 f0, .int .i64 f1, .int .i64 f2, .int .i64 ((258 : Nat) : Int), .int .i64 f4] 23)
  have hx := hx.alloc (.cells #[.int .i64 f0, .int .i64 f1, .int .i64 f2, .int .i64 ((258 : Nat) : Int), .int .i64 f4] 23)
  have HE := Lib.hid (HE.out.trans hx)
  have HB6 := Lib.hid (hb6.ext ((Ext.refl w6).alloc (.cells #[.int .i64 f0, .int .i64 f1, .int .i64 f2, .int .i64 ((258 : Nat) : Int), .int .i64 f4] 23)))
  obtain ⟨⟨_, _, _, i3, _⟩, _⟩ := five_cells hr
  clear hx hr hb6
  go_wp2_with fail
  have HY := Lib.hid ((Ext.refl (w6.alloc (.cells #[.int .i64 f0, .int .i64 f1, .int .i64 f2, .int .i64 ((258 : Nat) : Int), .int .i64 f4] 23))).alloc (.cells #[.int .u8 7] 5))
  refine (same_by _ _ [7] [7] 1 1 _ 1 _ (HB6.out.ext HY.out) (By.lit2 w6 _ [7] 5 (by decide) (by decide) _ rfl)).mono ?_
  rw [decide_eq_true (rfl : [7] = ([7] : List Nat))]
  rintro r w7 ⟨rfl, hx⟩
  have HE := Lib.hid (HE.out.trans (HY.out.trans hx))
  clear hx HY
  go_wp2_with fail
  refine (room_any _ _).mono ?_
  rw [show roomN 1 = 43 from rfl]
  rintro r w8 ⟨rfl, rfl⟩
  go_wp2_with fail
  refine (room_any _ _).mono ?_
  rw [show roomN 2 = 88 from rfl]
  rintro r w8 ⟨rfl, rfl⟩
  go_wp2_with fail
  refine (room_any _ _).mono ?_
  rw [show roomN 3 = 0 from rfl]
  rintro r w8 ⟨rfl, rfl⟩
  go_wp2_with fail
  go_ret
  exact ⟨rfl, HE.out⟩
end Go.Proofs.YtgcjilifmcianaaDoor
