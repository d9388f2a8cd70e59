/-
  The laws' own awake: the chapter's examples hold.
-/
import Derived.Test.YtinflpheogglhaaK00
import Derived.Test.YtinflpheogglhaaK04
import Derived.Test.YtinflpheogglhaaK06
namespace Go.Proofs.Ytinflpheogglhaa
set_option maxRecDepth 100000
section
open Go Go.RowKit
theorem rowR11 {w : World} {b : Nat} {v0 v1 v2 v3 v4 v5 v6 v7 v8 v9 v10 : Value} {t : TypeId} {fr : Nat × Nat} (h : w.heap[b]? = some (.cells #[v0, v1, v2, v3, v4, v5, v6, v7, v8, v9, v10] t fr)) : w.cell? ⟨b, 0, none⟩ = some v0 ∧ w.cell? ⟨b, 1, none⟩ = some v1 ∧ w.cell? ⟨b, 2, none⟩ = some v2 ∧ w.cell? ⟨b, 3, none⟩ = some v3 ∧ w.cell? ⟨b, 4, none⟩ = some v4 ∧ w.cell? ⟨b, 5, none⟩ = some v5 ∧ w.cell? ⟨b, 6, none⟩ = some v6 ∧ w.cell? ⟨b, 7, none⟩ = some v7 ∧ w.cell? ⟨b, 8, none⟩ = some v8 ∧ w.cell? ⟨b, 9, none⟩ = some v9 ∧ w.cell? ⟨b, 10, none⟩ = some v10 :=
  ⟨cell_of_row w b 0 _ _ _ h, cell_of_row w b 1 _ _ _ h, cell_of_row w b 2 _ _ _ h, cell_of_row w b 3 _ _ _ h, cell_of_row w b 4 _ _ _ h, cell_of_row w b 5 _ _ _ h, cell_of_row w b 6 _ _ _ h, cell_of_row w b 7 _ _ _ h, cell_of_row w b 8 _ _ _ h, cell_of_row w b 9 _ _ _ h, cell_of_row w b 10 _ _ _ h⟩
def Six (w : World) (g h : Nat) : Prop := w.heap[g]? = some (.cells #[.int .i64 0, .int .u8 0, .int .i64 0, .int .i64 0, .int .u8 0, .int .i64 0, .int .i64 0, .int .u8 0, .string ⟨#[]⟩, .string ⟨#[]⟩, .string ⟨#[]⟩] 54 (0, 0)) ∧ w.heap[g + 1]? = some (.cells #[.int .i64 0, .int .u8 1, .int .i64 0, .int .i64 0, .int .u8 0, .int .i64 0, .int .i64 0, .int .u8 0, .string ⟨#[]⟩, .string ⟨#[]⟩, .string ⟨#[]⟩] 54 (0, 0)) ∧ w.heap[g + 2]? = some (.cells #[.int .i64 0, .int .u8 4, .int .i64 0, .int .i64 0, .int .u8 0, .int .i64 0, .int .i64 0, .int .u8 0, .string ⟨#[]⟩, .string ⟨#[]⟩, .string ⟨#[]⟩] 54 (0, 0)) ∧ w.heap[h]? = some (.cells #[.int .i64 0, .int .u8 2, .int .i64 1, .int .i64 0, .int .u8 2, .int .i64 0, .int .i64 7, .int .u8 0, .string ⟨#[]⟩, .string ⟨#[]⟩, .string ⟨#[]⟩] 54 (0, 0)) ∧ w.heap[h + 1]? = some (.cells #[.int .i64 0, .int .u8 2, .int .i64 2, .int .i64 1, .int .u8 2, .int .i64 0, .int .i64 8, .int .u8 0, .string ⟨#[]⟩, .string ⟨#[]⟩, .string ⟨#[]⟩] 54 (0, 0)) ∧ w.heap[h + 2]? = some (.cells #[.int .i64 0, .int .u8 3, .int .i64 2, .int .i64 1, .int .u8 0, .int .i64 0, .int .i64 0, .int .u8 0, .string ⟨#[]⟩, .string ⟨#[]⟩, .string ⟨#[]⟩] 54 (0, 0))
theorem Six.ext {w w' : World} {g h : Nat} (hx : Ext w w') (k : Six w g h) : Six w' g h :=
  ⟨keep_rowB hx k.1, keep_rowB hx k.2.1, keep_rowB hx k.2.2.1, keep_rowB hx k.2.2.2.1, keep_rowB hx k.2.2.2.2.1, keep_rowB hx k.2.2.2.2.2⟩
theorem keep_new {w : World} {k : Nat} {o ob : Obj} (h : w.heap[k]? = some ob) : (w.alloc o).heap[k]? = some ob := keep_rowB ((Ext.refl w).alloc o) h
set_option maxHeartbeats 3000000 in
theorem chawake_of (w : World) : Calls Try.prog 13 #[] w fun e w' => e = .returned (.bool true) ∧ Ext w w' := by
  have htX : ∀ V, Calls Try.prog 29 #[.int .u8 2, .int .i64 1, .int .i64 0, .int .i64 7] V fun e w' => e = .returned (.agg #[.int .i64 0, .int .u8 2, .int .i64 1, .int .i64 0, .int .u8 2, .int .i64 0, .int .i64 7, .int .u8 0, .string ⟨#[]⟩, .string ⟨#[]⟩, .string ⟨#[]⟩]) ∧ Ext V w' := fun V => told_of 2 1 0 7 V
  have htY : ∀ V, Calls Try.prog 29 #[.int .u8 2, .int .i64 2, .int .i64 1, .int .i64 8] V fun e w' => e = .returned (.agg #[.int .i64 0, .int .u8 2, .int .i64 2, .int .i64 1, .int .u8 2, .int .i64 0, .int .i64 8, .int .u8 0, .string ⟨#[]⟩, .string ⟨#[]⟩, .string ⟨#[]⟩]) ∧ Ext V w' := fun V => told_of 2 2 1 8 V
  have htL : ∀ V, Calls Try.prog 29 #[.int .u8 3, .int .i64 2, .int .i64 1, .int .i64 0] V fun e w' => e = .returned (.agg #[.int .i64 0, .int .u8 3, .int .i64 2, .int .i64 1, .int .u8 0, .int .i64 0, .int .i64 0, .int .u8 0, .string ⟨#[]⟩, .string ⟨#[]⟩, .string ⟨#[]⟩]) ∧ Ext V w' := fun V => told_of 3 2 1 0 V
  have hbad0 : decR 3 [⟨0, 1, 0, 0, { k := 0, sq := 0 }⟩, ⟨0, 1, 0, 0, { k := 0, sq := 0 }⟩] = (0, {}) ∧ decE 3 [⟨0, 1, 0, 0, { k := 0, sq := 0 }⟩, ⟨0, 1, 0, 0, { k := 0, sq := 0 }⟩] = 2 := ⟨by kernel_rfl, by kernel_rfl⟩
  have hbad1 : decR 3 [⟨0, 1, 0, 0, { k := 0, sq := 0 }⟩, ⟨0, 1, 0, 0, { k := 0, sq := 0 }⟩, ⟨0, 5, 0, 0, { k := 0, sq := 0 }⟩] = (0, {}) ∧ decE 3 [⟨0, 1, 0, 0, { k := 0, sq := 0 }⟩, ⟨0, 1, 0, 0, { k := 0, sq := 0 }⟩, ⟨0, 5, 0, 0, { k := 0, sq := 0 }⟩] = 2 := ⟨by kernel_rfl, by kernel_rfl⟩
  have HTX := Lib.hid htX
  have HTY := Lib.hid htY
  have HTL := Lib.hid htL
  clear htX htY htL
  have hn : ∀ o1 o2 o3 : Obj, (((w.alloc o1).alloc o2).alloc o3).heap[w.heap.size]? = some o1 ∧ (((w.alloc o1).alloc o2).alloc o3).heap[w.heap.size + 1]? = some o2 ∧ (((w.alloc o1).alloc o2).alloc o3).heap[w.heap.size + 2]? = some o3 := fun o1 o2 o3 => ⟨keep_new (keep_new (heap_alloc_new w o1)), keep_new (heap_new_at (by simp)), heap_new_at (by simp)⟩
  have hrow := hn (.cells #[.int .i64 0, .int .u8 0, .int .i64 0, .int .i64 0, .int .u8 0, .int .i64 0, .int .i64 0, .int .u8 0, .string ⟨#[]⟩, .string ⟨#[]⟩, .string ⟨#[]⟩] 54) (.cells #[.int .i64 0, .int .u8 1, .int .i64 0, .int .i64 0, .int .u8 0, .int .i64 0, .int .i64 0, .int .u8 0, .string ⟨#[]⟩, .string ⟨#[]⟩, .string ⟨#[]⟩] 54) (.cells #[.int .i64 0, .int .u8 4, .int .i64 0, .int .i64 0, .int .u8 0, .int .i64 0, .int .i64 0, .int .u8 0, .string ⟨#[]⟩, .string ⟨#[]⟩, .string ⟨#[]⟩] 54)
  have hxt := (((Ext.refl w).alloc (.cells #[.int .i64 0, .int .u8 0, .int .i64 0, .int .i64 0, .int .u8 0, .int .i64 0, .int .i64 0, .int .u8 0, .string ⟨#[]⟩, .string ⟨#[]⟩, .string ⟨#[]⟩] 54)).alloc (.cells #[.int .i64 0, .int .u8 1, .int .i64 0, .int .i64 0, .int .u8 0, .int .i64 0, .int .i64 0, .int .u8 0, .string ⟨#[]⟩, .string ⟨#[]⟩, .string ⟨#[]⟩] 54)).alloc (.cells #[.int .i64 0, .int .u8 4, .int .i64 0, .int .i64 0, .int .u8 0, .int .i64 0, .int .i64 0, .int .u8 0, .string ⟨#[]⟩, .string ⟨#[]⟩, .string ⟨#[]⟩] 54)
  have HROW := Lib.hid (And.intro hxt hrow)
  clear hn hrow hxt
  go_enter Try.func13, Try.ntmps13
  go_upto_region 2 with (fail)
  generalize ((w.alloc (.cells #[.int .i64 0, .int .u8 0, .int .i64 0, .int .i64 0, .int .u8 0, .int .i64 0, .int .i64 0, .int .u8 0, .string ⟨#[]⟩, .string ⟨#[]⟩, .string ⟨#[]⟩] 54)).alloc (.cells #[.int .i64 0, .int .u8 1, .int .i64 0, .int .i64 0, .int .u8 0, .int .i64 0, .int .i64 0, .int .u8 0, .string ⟨#[]⟩, .string ⟨#[]⟩, .string ⟨#[]⟩] 54)).alloc (.cells #[.int .i64 0, .int .u8 4, .int .i64 0, .int .i64 0, .int .u8 0, .int .i64 0, .int .i64 0, .int .u8 0, .string ⟨#[]⟩, .string ⟨#[]⟩, .string ⟨#[]⟩] 54) = W0 at *
  obtain ⟨g, hg⟩ : ∃ g, w.heap.size = g := ⟨_, rfl⟩
  rw [hg] at HROW ⊢
  clear hg
  go_wp2_with fail
  refine (HTX.out _).mono ?_
  rintro _ w1 ⟨rfl, hx1⟩
  go_wp2_with fail
  refine (HTY.out _).mono ?_
  rintro _ w2 ⟨rfl, hx2⟩
  go_wp2_with fail
  refine (HTL.out _).mono ?_
  rintro _ w3 ⟨rfl, hx3⟩
  have hx := hx1.trans (hx2.trans hx3)
  have hr3 := And.intro (HROW.out.1.trans hx) (And.intro (keep_rowB hx HROW.out.2.1) (And.intro (keep_rowB hx HROW.out.2.2.1) (keep_rowB hx HROW.out.2.2.2)))
  have hn : ∀ o1 o2 o3 : Obj, (((w3.alloc o1).alloc o2).alloc o3).heap[w3.heap.size]? = some o1 ∧ (((w3.alloc o1).alloc o2).alloc o3).heap[w3.heap.size + 1]? = some o2 ∧ (((w3.alloc o1).alloc o2).alloc o3).heap[w3.heap.size + 2]? = some o3 := fun o1 o2 o3 => ⟨keep_new (keep_new (heap_alloc_new w3 o1)), keep_new (heap_new_at (by simp)), heap_new_at (by simp)⟩
  have hrow := hn (.cells #[.int .i64 0, .int .u8 2, .int .i64 1, .int .i64 0, .int .u8 2, .int .i64 0, .int .i64 7, .int .u8 0, .string ⟨#[]⟩, .string ⟨#[]⟩, .string ⟨#[]⟩] 54) (.cells #[.int .i64 0, .int .u8 2, .int .i64 2, .int .i64 1, .int .u8 2, .int .i64 0, .int .i64 8, .int .u8 0, .string ⟨#[]⟩, .string ⟨#[]⟩, .string ⟨#[]⟩] 54) (.cells #[.int .i64 0, .int .u8 3, .int .i64 2, .int .i64 1, .int .u8 0, .int .i64 0, .int .i64 0, .int .u8 0, .string ⟨#[]⟩, .string ⟨#[]⟩, .string ⟨#[]⟩] 54)
  have hxt := (((Ext.refl w3).alloc (.cells #[.int .i64 0, .int .u8 2, .int .i64 1, .int .i64 0, .int .u8 2, .int .i64 0, .int .i64 7, .int .u8 0, .string ⟨#[]⟩, .string ⟨#[]⟩, .string ⟨#[]⟩] 54)).alloc (.cells #[.int .i64 0, .int .u8 2, .int .i64 2, .int .i64 1, .int .u8 2, .int .i64 0, .int .i64 8, .int .u8 0, .string ⟨#[]⟩, .string ⟨#[]⟩, .string ⟨#[]⟩] 54)).alloc (.cells #[.int .i64 0, .int .u8 3, .int .i64 2, .int .i64 1, .int .u8 0, .int .i64 0, .int .i64 0, .int .u8 0, .string ⟨#[]⟩, .string ⟨#[]⟩, .string ⟨#[]⟩] 54)
  have HS : Hid (Six ((((w3.alloc (.cells #[.int .i64 0, .int .u8 2, .int .i64 1, .int .i64 0, .int .u8 2, .int .i64 0, .int .i64 7, .int .u8 0, .string ⟨#[]⟩, .string ⟨#[]⟩, .string ⟨#[]⟩] 54)).alloc (.cells #[.int .i64 0, .int .u8 2, .int .i64 2, .int .i64 1, .int .u8 2, .int .i64 0, .int .i64 8, .int .u8 0, .string ⟨#[]⟩, .string ⟨#[]⟩, .string ⟨#[]⟩] 54)).alloc (.cells #[.int .i64 0, .int .u8 3, .int .i64 2, .int .i64 1, .int .u8 0, .int .i64 0, .int .i64 0, .int .u8 0, .string ⟨#[]⟩, .string ⟨#[]⟩, .string ⟨#[]⟩] 54))) g w3.heap.size) := Lib.hid ⟨keep_rowB hxt hr3.2.1, keep_rowB hxt hr3.2.2.1, keep_rowB hxt hr3.2.2.2, hrow.1, hrow.2.1, hrow.2.2⟩
  have HX := Lib.hid (hr3.1.trans hxt)
  clear hn hrow hxt hr3 hx hx1 hx2 hx3 HROW
  go_upto_region 3 with (fail)
  generalize ((w3.alloc (.cells #[.int .i64 0, .int .u8 2, .int .i64 1, .int .i64 0, .int .u8 2, .int .i64 0, .int .i64 7, .int .u8 0, .string ⟨#[]⟩, .string ⟨#[]⟩, .string ⟨#[]⟩] 54)).alloc (.cells #[.int .i64 0, .int .u8 2, .int .i64 2, .int .i64 1, .int .u8 2, .int .i64 0, .int .i64 8, .int .u8 0, .string ⟨#[]⟩, .string ⟨#[]⟩, .string ⟨#[]⟩] 54)).alloc (.cells #[.int .i64 0, .int .u8 3, .int .i64 2, .int .i64 1, .int .u8 0, .int .i64 0, .int .i64 0, .int .u8 0, .string ⟨#[]⟩, .string ⟨#[]⟩, .string ⟨#[]⟩] 54) = V at *
  generalize w3.heap.size = h at *
  obtain ⟨cA0, cA1, cA2, cA3, cA4, cA5, cA6, cA7, cA8, cA9, cA10⟩ := rowR11 HS.out.2.1
  go_wp2_with fail
  refine (decide_of 3 _ 2 2 [⟨0, 1, 0, 0, { k := 0, sq := 0 }⟩, ⟨0, 1, 0, 0, { k := 0, sq := 0 }⟩] _ (ls_flat (t := 54) (cs := (rptC ⟨0, 1, 0, 0, { k := 0, sq := 0 }⟩ ++ (rptC ⟨0, 1, 0, 0, { k := 0, sq := 0 }⟩ ++ [])).toArray) rfl (by omega) rfl (heap_new_at ?hb0))).mono ?_
  case hb0 => simp
  rintro _ V ⟨rfl, hx⟩
  rw [hbad0.1, hbad0.2]
  have hx := ((Ext.refl _).alloc _).trans hx
  have HS1 := Lib.hid (Six.ext hx HS.out)
  have HX1 := Lib.hid (HX.out.trans hx)
  clear hx HS HX cA0 cA1 cA2 cA3 cA4 cA5 cA6 cA7 cA8 cA9 cA10
  dsimp only
  go_upto_region 4 with (fail)
  have hx := (Ext.refl V).alloc (.cells #[.int .u8 0, .int .i64 0, .int .i64 0, .int .u8 0, .string ByteArray.empty, .string ByteArray.empty, .string ByteArray.empty] 27)
  have HS := Lib.hid (Six.ext hx HS1.out)
  have HX := Lib.hid (HX1.out.trans hx)
  generalize (V.alloc (.cells #[.int .u8 0, .int .i64 0, .int .i64 0, .int .u8 0, .string ByteArray.empty, .string ByteArray.empty, .string ByteArray.empty] 27)) = W0 at *
  clear hx HS1 HX1
  obtain ⟨cA0, cA1, cA2, cA3, cA4, cA5, cA6, cA7, cA8, cA9, cA10⟩ := rowR11 HS.out.2.1
  go_wp2_with fail
  refine (decide_of 3 _ 3 3 [⟨0, 1, 0, 0, { k := 0, sq := 0 }⟩, ⟨0, 1, 0, 0, { k := 0, sq := 0 }⟩, ⟨0, 5, 0, 0, { k := 0, sq := 0 }⟩] _ (ls_flat (t := 54) (cs := (rptC ⟨0, 1, 0, 0, { k := 0, sq := 0 }⟩ ++ (rptC ⟨0, 1, 0, 0, { k := 0, sq := 0 }⟩ ++ (rptC ⟨0, 5, 0, 0, { k := 0, sq := 0 }⟩ ++ []))).toArray) rfl (by omega) rfl (heap_new_at ?hb1))).mono ?_
  case hb1 => simp
  rintro _ V ⟨rfl, hx⟩
  rw [hbad1.1, hbad1.2]
  have hx := ((Ext.refl _).alloc _).trans hx
  have HS1 := Lib.hid (Six.ext hx HS.out)
  have HX1 := Lib.hid (HX.out.trans hx)
  clear hx HS HX cA0 cA1 cA2 cA3 cA4 cA5 cA6 cA7 cA8 cA9 cA10
  dsimp only
  go_upto_region 5 with (fail)
  have hx := (Ext.refl V).alloc (.cells #[.int .u8 0, .int .i64 0, .int .i64 0, .int .u8 0, .string ByteArray.empty, .string ByteArray.empty, .string ByteArray.empty] 27)
  have HS := Lib.hid (Six.ext hx HS1.out)
  have HX := Lib.hid (HX1.out.trans hx)
  generalize (V.alloc (.cells #[.int .u8 0, .int .i64 0, .int .i64 0, .int .u8 0, .string ByteArray.empty, .string ByteArray.empty, .string ByteArray.empty] 27)) = W1 at *
  clear hx HS1 HX1
  obtain ⟨cA0, cA1, cA2, cA3, cA4, cA5, cA6, cA7, cA8, cA9, cA10⟩ := rowR11 HS.out.2.1
  obtain ⟨cN0, cN1, cN2, cN3, cN4, cN5, cN6, cN7, cN8, cN9, cN10⟩ := rowR11 HS.out.1
  go_wp2_with fail
  refine (decides_of ⟨0, 1, 0, 0, { k := 0, sq := 0 }⟩ ⟨0, 1, 0, 0, { k := 0, sq := 0 }⟩ ⟨0, 0, 0, 0, { k := 0, sq := 0 }⟩ 1 0 _ (by decide) (by kernel_rfl) (by kernel_rfl)).mono ?_
  rintro _ V0 ⟨rfl, hx⟩
  have HS1 := Lib.hid (Six.ext hx HS.out)
  have HX1 := Lib.hid (HX.out.trans hx)
  clear hx HS HX cA0 cA1 cA2 cA3 cA4 cA5 cA6 cA7 cA8 cA9 cA10 cN0 cN1 cN2 cN3 cN4 cN5 cN6 cN7 cN8 cN9 cN10
  have HS := HS1
  have HX := HX1
  clear HS1 HX1
  obtain ⟨cA0, cA1, cA2, cA3, cA4, cA5, cA6, cA7, cA8, cA9, cA10⟩ := rowR11 HS.out.2.1
  obtain ⟨cN0, cN1, cN2, cN3, cN4, cN5, cN6, cN7, cN8, cN9, cN10⟩ := rowR11 HS.out.1
  go_wp2_with fail
  refine (decides_of ⟨0, 1, 0, 0, { k := 0, sq := 0 }⟩ ⟨0, 0, 0, 0, { k := 0, sq := 0 }⟩ ⟨0, 0, 0, 0, { k := 0, sq := 0 }⟩ 0 0 _ (by decide) (by kernel_rfl) (by kernel_rfl)).mono ?_
  rintro _ V1 ⟨rfl, hx⟩
  have HS1 := Lib.hid (Six.ext hx HS.out)
  have HX1 := Lib.hid (HX.out.trans hx)
  clear hx HS HX cA0 cA1 cA2 cA3 cA4 cA5 cA6 cA7 cA8 cA9 cA10 cN0 cN1 cN2 cN3 cN4 cN5 cN6 cN7 cN8 cN9 cN10
  have HS := HS1
  have HX := HX1
  clear HS1 HX1
  obtain ⟨cX0, cX1, cX2, cX3, cX4, cX5, cX6, cX7, cX8, cX9, cX10⟩ := rowR11 HS.out.2.2.2.1
  obtain ⟨cA0, cA1, cA2, cA3, cA4, cA5, cA6, cA7, cA8, cA9, cA10⟩ := rowR11 HS.out.2.1
  obtain ⟨cN0, cN1, cN2, cN3, cN4, cN5, cN6, cN7, cN8, cN9, cN10⟩ := rowR11 HS.out.1
  go_wp2_with fail
  refine (decides_of ⟨0, 2, 1, 0, { k := 2, sq := 7 }⟩ ⟨0, 1, 0, 0, { k := 0, sq := 0 }⟩ ⟨0, 0, 0, 0, { k := 0, sq := 0 }⟩ 2 7 _ (by decide) (by kernel_rfl) (by kernel_rfl)).mono ?_
  rintro _ V2 ⟨rfl, hx⟩
  have HS1 := Lib.hid (Six.ext hx HS.out)
  have HX1 := Lib.hid (HX.out.trans hx)
  clear hx HS HX cX0 cX1 cX2 cX3 cX4 cX5 cX6 cX7 cX8 cX9 cX10 cA0 cA1 cA2 cA3 cA4 cA5 cA6 cA7 cA8 cA9 cA10 cN0 cN1 cN2 cN3 cN4 cN5 cN6 cN7 cN8 cN9 cN10
  have HS := HS1
  have HX := HX1
  clear HS1 HX1
  obtain ⟨cX0, cX1, cX2, cX3, cX4, cX5, cX6, cX7, cX8, cX9, cX10⟩ := rowR11 HS.out.2.2.2.1
  obtain ⟨cY0, cY1, cY2, cY3, cY4, cY5, cY6, cY7, cY8, cY9, cY10⟩ := rowR11 HS.out.2.2.2.2.1
  obtain ⟨cN0, cN1, cN2, cN3, cN4, cN5, cN6, cN7, cN8, cN9, cN10⟩ := rowR11 HS.out.1
  go_wp2_with fail
  refine (decides_of ⟨0, 2, 1, 0, { k := 2, sq := 7 }⟩ ⟨0, 2, 2, 1, { k := 2, sq := 8 }⟩ ⟨0, 0, 0, 0, { k := 0, sq := 0 }⟩ 2 8 _ (by decide) (by kernel_rfl) (by kernel_rfl)).mono ?_
  rintro _ V3 ⟨rfl, hx⟩
  have HS1 := Lib.hid (Six.ext hx HS.out)
  have HX1 := Lib.hid (HX.out.trans hx)
  clear hx HS HX cX0 cX1 cX2 cX3 cX4 cX5 cX6 cX7 cX8 cX9 cX10 cY0 cY1 cY2 cY3 cY4 cY5 cY6 cY7 cY8 cY9 cY10 cN0 cN1 cN2 cN3 cN4 cN5 cN6 cN7 cN8 cN9 cN10
  have HS := HS1
  have HX := HX1
  clear HS1 HX1
  obtain ⟨cL0, cL1, cL2, cL3, cL4, cL5, cL6, cL7, cL8, cL9, cL10⟩ := rowR11 HS.out.2.2.2.2.2
  obtain ⟨cA0, cA1, cA2, cA3, cA4, cA5, cA6, cA7, cA8, cA9, cA10⟩ := rowR11 HS.out.2.1
  obtain ⟨cN0, cN1, cN2, cN3, cN4, cN5, cN6, cN7, cN8, cN9, cN10⟩ := rowR11 HS.out.1
  go_wp2_with fail
  refine (decides_of ⟨0, 3, 2, 1, { k := 0, sq := 0 }⟩ ⟨0, 1, 0, 0, { k := 0, sq := 0 }⟩ ⟨0, 0, 0, 0, { k := 0, sq := 0 }⟩ 0 0 _ (by decide) (by kernel_rfl) (by kernel_rfl)).mono ?_
  rintro _ V4 ⟨rfl, hx⟩
  have HS1 := Lib.hid (Six.ext hx HS.out)
  have HX1 := Lib.hid (HX.out.trans hx)
  clear hx HS HX cL0 cL1 cL2 cL3 cL4 cL5 cL6 cL7 cL8 cL9 cL10 cA0 cA1 cA2 cA3 cA4 cA5 cA6 cA7 cA8 cA9 cA10 cN0 cN1 cN2 cN3 cN4 cN5 cN6 cN7 cN8 cN9 cN10
  have HS := HS1
  have HX := HX1
  clear HS1 HX1
  obtain ⟨cL0, cL1, cL2, cL3, cL4, cL5, cL6, cL7, cL8, cL9, cL10⟩ := rowR11 HS.out.2.2.2.2.2
  obtain ⟨cA0, cA1, cA2, cA3, cA4, cA5, cA6, cA7, cA8, cA9, cA10⟩ := rowR11 HS.out.2.1
  go_wp2_with fail
  refine (decides_of ⟨0, 3, 2, 1, { k := 0, sq := 0 }⟩ ⟨0, 1, 0, 0, { k := 0, sq := 0 }⟩ ⟨0, 1, 0, 0, { k := 0, sq := 0 }⟩ 1 0 _ (by decide) (by kernel_rfl) (by kernel_rfl)).mono ?_
  rintro _ V5 ⟨rfl, hx⟩
  have HS1 := Lib.hid (Six.ext hx HS.out)
  have HX1 := Lib.hid (HX.out.trans hx)
  clear hx HS HX cL0 cL1 cL2 cL3 cL4 cL5 cL6 cL7 cL8 cL9 cL10 cA0 cA1 cA2 cA3 cA4 cA5 cA6 cA7 cA8 cA9 cA10
  have HS := HS1
  have HX := HX1
  clear HS1 HX1
  obtain ⟨cL0, cL1, cL2, cL3, cL4, cL5, cL6, cL7, cL8, cL9, cL10⟩ := rowR11 HS.out.2.2.2.2.2
  obtain ⟨cX0, cX1, cX2, cX3, cX4, cX5, cX6, cX7, cX8, cX9, cX10⟩ := rowR11 HS.out.2.2.2.1
  obtain ⟨cA0, cA1, cA2, cA3, cA4, cA5, cA6, cA7, cA8, cA9, cA10⟩ := rowR11 HS.out.2.1
  go_wp2_with fail
  refine (decides_of ⟨0, 3, 2, 1, { k := 0, sq := 0 }⟩ ⟨0, 2, 1, 0, { k := 2, sq := 7 }⟩ ⟨0, 1, 0, 0, { k := 0, sq := 0 }⟩ 2 7 _ (by decide) (by kernel_rfl) (by kernel_rfl)).mono ?_
  rintro _ V6 ⟨rfl, hx⟩
  have HS1 := Lib.hid (Six.ext hx HS.out)
  have HX1 := Lib.hid (HX.out.trans hx)
  clear hx HS HX cL0 cL1 cL2 cL3 cL4 cL5 cL6 cL7 cL8 cL9 cL10 cX0 cX1 cX2 cX3 cX4 cX5 cX6 cX7 cX8 cX9 cX10 cA0 cA1 cA2 cA3 cA4 cA5 cA6 cA7 cA8 cA9 cA10
  have HS := HS1
  have HX := HX1
  clear HS1 HX1
  obtain ⟨cL0, cL1, cL2, cL3, cL4, cL5, cL6, cL7, cL8, cL9, cL10⟩ := rowR11 HS.out.2.2.2.2.2
  obtain ⟨cX0, cX1, cX2, cX3, cX4, cX5, cX6, cX7, cX8, cX9, cX10⟩ := rowR11 HS.out.2.2.2.1
  obtain ⟨cN0, cN1, cN2, cN3, cN4, cN5, cN6, cN7, cN8, cN9, cN10⟩ := rowR11 HS.out.1
  go_wp2_with fail
  refine (decides_of ⟨0, 3, 2, 1, { k := 0, sq := 0 }⟩ ⟨0, 2, 1, 0, { k := 2, sq := 7 }⟩ ⟨0, 0, 0, 0, { k := 0, sq := 0 }⟩ 0 0 _ (by decide) (by kernel_rfl) (by kernel_rfl)).mono ?_
  rintro _ V7 ⟨rfl, hx⟩
  have HS1 := Lib.hid (Six.ext hx HS.out)
  have HX1 := Lib.hid (HX.out.trans hx)
  clear hx HS HX cL0 cL1 cL2 cL3 cL4 cL5 cL6 cL7 cL8 cL9 cL10 cX0 cX1 cX2 cX3 cX4 cX5 cX6 cX7 cX8 cX9 cX10 cN0 cN1 cN2 cN3 cN4 cN5 cN6 cN7 cN8 cN9 cN10
  have HS := HS1
  have HX := HX1
  clear HS1 HX1
  obtain ⟨cB0, cB1, cB2, cB3, cB4, cB5, cB6, cB7, cB8, cB9, cB10⟩ := rowR11 HS.out.2.2.1
  obtain ⟨cX0, cX1, cX2, cX3, cX4, cX5, cX6, cX7, cX8, cX9, cX10⟩ := rowR11 HS.out.2.2.2.1
  obtain ⟨cN0, cN1, cN2, cN3, cN4, cN5, cN6, cN7, cN8, cN9, cN10⟩ := rowR11 HS.out.1
  go_wp2_with fail
  refine (decides_of ⟨0, 4, 0, 0, { k := 0, sq := 0 }⟩ ⟨0, 2, 1, 0, { k := 2, sq := 7 }⟩ ⟨0, 0, 0, 0, { k := 0, sq := 0 }⟩ 0 0 _ (by decide) (by kernel_rfl) (by kernel_rfl)).mono ?_
  rintro _ V8 ⟨rfl, hx⟩
  have HS1 := Lib.hid (Six.ext hx HS.out)
  have HX1 := Lib.hid (HX.out.trans hx)
  clear hx HS HX cB0 cB1 cB2 cB3 cB4 cB5 cB6 cB7 cB8 cB9 cB10 cX0 cX1 cX2 cX3 cX4 cX5 cX6 cX7 cX8 cX9 cX10 cN0 cN1 cN2 cN3 cN4 cN5 cN6 cN7 cN8 cN9 cN10
  have HS := HS1
  have HX := HX1
  clear HS1 HX1
  obtain ⟨cL0, cL1, cL2, cL3, cL4, cL5, cL6, cL7, cL8, cL9, cL10⟩ := rowR11 HS.out.2.2.2.2.2
  obtain ⟨cX0, cX1, cX2, cX3, cX4, cX5, cX6, cX7, cX8, cX9, cX10⟩ := rowR11 HS.out.2.2.2.1
  go_wp2_with fail
  refine (decides_of ⟨0, 3, 2, 1, { k := 0, sq := 0 }⟩ ⟨0, 3, 2, 1, { k := 0, sq := 0 }⟩ ⟨0, 2, 1, 0, { k := 2, sq := 7 }⟩ 2 7 _ (by decide) (by kernel_rfl) (by kernel_rfl)).mono ?_
  rintro _ V9 ⟨rfl, hx⟩
  have HS1 := Lib.hid (Six.ext hx HS.out)
  have HX1 := Lib.hid (HX.out.trans hx)
  clear hx HS HX cL0 cL1 cL2 cL3 cL4 cL5 cL6 cL7 cL8 cL9 cL10 cX0 cX1 cX2 cX3 cX4 cX5 cX6 cX7 cX8 cX9 cX10
  have HS := HS1
  have HX := HX1
  clear HS1 HX1
  obtain ⟨cB0, cB1, cB2, cB3, cB4, cB5, cB6, cB7, cB8, cB9, cB10⟩ := rowR11 HS.out.2.2.1
  obtain ⟨cA0, cA1, cA2, cA3, cA4, cA5, cA6, cA7, cA8, cA9, cA10⟩ := rowR11 HS.out.2.1
  go_wp2_with fail
  refine (decides_of ⟨0, 4, 0, 0, { k := 0, sq := 0 }⟩ ⟨0, 4, 0, 0, { k := 0, sq := 0 }⟩ ⟨0, 1, 0, 0, { k := 0, sq := 0 }⟩ 1 0 _ (by decide) (by kernel_rfl) (by kernel_rfl)).mono ?_
  rintro _ V10 ⟨rfl, hx⟩
  have HS1 := Lib.hid (Six.ext hx HS.out)
  have HX1 := Lib.hid (HX.out.trans hx)
  clear hx HS HX cB0 cB1 cB2 cB3 cB4 cB5 cB6 cB7 cB8 cB9 cB10 cA0 cA1 cA2 cA3 cA4 cA5 cA6 cA7 cA8 cA9 cA10
  have HS := HS1
  have HX := HX1
  clear HS1 HX1
  obtain ⟨cB0, cB1, cB2, cB3, cB4, cB5, cB6, cB7, cB8, cB9, cB10⟩ := rowR11 HS.out.2.2.1
  obtain ⟨cX0, cX1, cX2, cX3, cX4, cX5, cX6, cX7, cX8, cX9, cX10⟩ := rowR11 HS.out.2.2.2.1
  obtain ⟨cA0, cA1, cA2, cA3, cA4, cA5, cA6, cA7, cA8, cA9, cA10⟩ := rowR11 HS.out.2.1
  go_wp2_with fail
  refine (decides_of ⟨0, 4, 0, 0, { k := 0, sq := 0 }⟩ ⟨0, 2, 1, 0, { k := 2, sq := 7 }⟩ ⟨0, 1, 0, 0, { k := 0, sq := 0 }⟩ 2 7 _ (by decide) (by kernel_rfl) (by kernel_rfl)).mono ?_
  rintro _ V11 ⟨rfl, hx⟩
  have HS1 := Lib.hid (Six.ext hx HS.out)
  have HX1 := Lib.hid (HX.out.trans hx)
  clear hx HS HX cB0 cB1 cB2 cB3 cB4 cB5 cB6 cB7 cB8 cB9 cB10 cX0 cX1 cX2 cX3 cX4 cX5 cX6 cX7 cX8 cX9 cX10 cA0 cA1 cA2 cA3 cA4 cA5 cA6 cA7 cA8 cA9 cA10
  have HS := HS1
  have HX := HX1
  clear HS1 HX1
  go_wp2_with fail
  go_ret
  exact ⟨rfl, HX.out⟩
end
section
open Go Go.RowKit
theorem wrap_modR (z : Int) (N : Nat) (h0 : 0 < N) (hN : N ≤ 1000) : ∃ q : Nat, q < N ∧ wrap64 ((IntKind.u64.wrap z).tmod (N : Int)) = (q : Int) := by
  have h1 : 0 ≤ IntKind.u64.wrap z := by rw [IntKind.wrap_u64]; omega
  have h2 := Int.emod_nonneg (IntKind.u64.wrap z) (show (N : Int) ≠ 0 by omega)
  have h3 := Int.emod_lt_of_pos (IntKind.u64.wrap z) (show (0 : Int) < N by omega)
  refine ⟨((IntKind.u64.wrap z) % N).toNat, by omega, ?_⟩
  rw [Int.tmod_eq_emod_of_nonneg h1, IntWalk.wrap64_in _ (by omega)]
  omega
theorem dec_is {n : Int} {l : List Rpt} (h : okR n l = true) : decR n l = (if waitR l then (0, {}) else valR (bestR l)) := (dec_ok h).1
def nothR : Rpt := ⟨0, 1, 0, 0, {}⟩
theorem set_split {l : List Rpt} {k : Nat} {r : Rpt} (h : l[k]? = some r) (x : Rpt) : l.set k x = l.take k ++ x :: l.drop (k + 1) := by
  have hk := (List.getElem?_eq_some_iff.1 h).1
  rw [List.set_eq_take_append_cons_drop, if_pos hk]
theorem more_facts {l : List Rpt} {k : Nat} {r : Rpt} (h : l[k]? = some r) (hr : r.st = 0) :
    bestR (l.set k nothR) = bestR l ∧ (∀ b, lostGe (l.set k nothR) b = lostGe l b) ∧ (l.set k nothR).countP unkR + 1 = l.countP unkR ∧ (∀ x ∈ l.set k nothR, x.st = 3 → x ∈ l) := by
  have e1 := set_split h nothR
  have e2 := split_atR h
  obtain ⟨a, ha⟩ : ∃ a, l.take k = a := ⟨_, rfl⟩
  obtain ⟨d, hd⟩ : ∃ d, l.drop (k + 1) = d := ⟨_, rfl⟩
  rw [ha, hd] at e1 e2
  rw [e1, e2]
  have n1 : nothR.st ≠ 2 := by decide
  have n2 : r.st ≠ 2 := by omega
  refine ⟨?_, fun b => ?_, ?_, fun x hx hs => ?_⟩
  · unfold bestR
    rw [List.foldl_append, List.foldl_append, List.foldl_cons, List.foldl_cons, upR_no _ n1, upR_no _ n2]
  · unfold lostGe
    rw [List.countP_append, List.countP_append, List.countP_cons, List.countP_cons]
    have h1 : (decide (nothR.st = 3) && !ltB nothR.b b) = false := rfl
    have h2 : (decide (r.st = 3) && !ltB r.b b) = false := by rw [decide_eq_false (by omega)]; rfl
    rw [h1, h2]
  · rw [List.countP_append, List.countP_append, List.countP_cons, List.countP_cons]
    have h1 : unkR nothR = false := rfl
    have h2 : unkR r = true := unkR_iff.2 (.inl hr)
    rw [h1, h2]
    simp
    omega
  · rw [List.mem_append, List.mem_cons] at hx ⊢
    rcases hx with hx | hx | hx
    · exact .inl hx
    · subst hx
      cases hs
    · exact .inr (.inr hx)
theorem more_ok {n : Int} {l : List Rpt} {k : Nat} (h : okR n l = true) : okR n (l.set k nothR) = true := by
  obtain ⟨h1, h2, h3⟩ := okR_iff.1 h
  refine okR_iff.2 ⟨h1, by rw [List.length_set]; exact h2, fun r hr => ?_⟩
  rcases List.mem_or_eq_of_mem_set hr with hr | hr
  · exact h3 r hr
  · subst hr
    decide
theorem more_same {n : Int} {l : List Rpt} {k : Nat} {r : Rpt} (ho : okR n l = true) (h : l[k]? = some r) (hr : r.st = 0) (hx : (decR n l).1 ≠ 0) : decR n (l.set k nothR) = decR n l := by
  obtain ⟨h1, h2, h3, h4⟩ := more_facts h hr
  rw [dec_is ho] at hx ⊢
  rw [dec_is (more_ok ho), h1]
  have ha : (l.any fun r => decide (r.st = 0)) = true := any_yesR h (decide_eq_true hr)
  cases hw : waitR l with
  | true => rw [hw] at hx; exact absurd rfl hx
  | false =>
    unfold waitR at hw
    rw [ha, Bool.and_true, undR_not] at hw
    have hu : waitR (l.set k nothR) = false := by
      unfold waitR
      rw [List.length_set, undR_not.2 ⟨by omega, fun x hxm hs ho => ?_⟩, Bool.false_and]
      rw [h1] at ho
      have := hw.2 x (h4 x hxm hs) hs ho
      rw [h2]
      omega
    rw [hu]
theorem three_split (l : List Rpt) : l.countP (fun r => decide (r.st = 0)) + l.countP (fun r => decide (r.st = 1 ∨ r.st = 2)) + l.countP (fun r => decide (¬ r.st = 0 ∧ ¬ (r.st = 1 ∨ r.st = 2))) = l.length := by
  induction l with
  | nil => rfl
  | cons a l ih =>
    rw [List.countP_cons, List.countP_cons, List.countP_cons, List.length_cons]
    by_cases h0 : a.st = 0
    · rw [decide_eq_true h0, decide_eq_false (by omega), decide_eq_false (by omega)]
      simp only [if_true, Bool.false_eq_true, if_false]
      omega
    · by_cases h1 : a.st = 1 ∨ a.st = 2
      · rw [decide_eq_false h0, decide_eq_true h1, decide_eq_false (by omega)]
        simp only [if_true, Bool.false_eq_true, if_false]
        omega
      · rw [decide_eq_false h0, decide_eq_false h1, decide_eq_true ⟨h0, h1⟩]
        simp only [if_true, Bool.false_eq_true, if_false]
        omega
theorem none_of {l : List Rpt} {p : Rpt → Bool} (h : l.countP p = 0) : ∀ r ∈ l, p r = false := fun r hr => by
  have := List.countP_eq_zero.1 h r hr
  simpa using this
theorem goes_wait {n : Int} {l : List Rpt} (ho : okR n l = true) (hx : (decR n l).1 = 0) :
    l.countP (fun r => decide (r.st = 0)) ≠ 0 ∧ (l.length / 2 + 1 ≤ l.countP (fun r => decide (r.st = 1 ∨ r.st = 2)) → l.countP (fun r => decide (¬ r.st = 0 ∧ ¬ (r.st = 1 ∨ r.st = 2))) ≠ 0) ∧ (decR n l).2 = {} := by
  rw [dec_is ho] at hx ⊢
  cases hw : waitR l with
  | false => rw [hw] at hx; exact absurd hx (valR_pos _)
  | true =>
    unfold waitR at hw
    rw [Bool.and_eq_true] at hw
    obtain ⟨hu, ha⟩ := hw
    have h3 := three_split l
    refine ⟨fun h0 => ?_, fun hp hs => ?_, rfl⟩
    · obtain ⟨r, hr, e⟩ := List.any_eq_true.1 ha
      rw [none_of h0 r hr] at e
      cases e
    · have hno := none_of hs
      rw [undR_iff] at hu
      rcases hu with hu | ⟨r, hr, h1, _⟩
      · have hc : l.countP unkR = l.countP (fun r => decide (r.st = 0)) := List.countP_congr fun r hr => by
          have := hno r hr
          rw [decide_eq_false_iff_not] at this
          rw [unkR_iff, decide_eq_true_iff]
          omega
        omega
      · have := hno r hr
        rw [decide_eq_false_iff_not] at this
        omega
theorem goes_value {n : Int} {l : List Rpt} (ho : okR n l = true) (hx : (decR n l).1 = 2) : ∃ r ∈ l, r.st = 2 ∧ r.e = (decR n l).2 := by
  rw [dec_is ho] at hx ⊢
  cases hw : waitR l with
  | true => rw [hw] at hx; cases hx
  | false =>
    cases hb : bestR l with
    | none => rw [hw, hb] at hx; cases hx
    | some q => exact ⟨q, (bestR_some hb).1, (bestR_some hb).2.1, rfl⟩
theorem goes_noop {n : Int} {l : List Rpt} (ho : okR n l = true) (hx : (decR n l).1 = 1) : (decR n l).2 = noopE := by
  rw [dec_is ho] at hx ⊢
  cases hw : waitR l with
  | true => rw [hw] at hx; cases hx
  | false =>
    cases hb : bestR l with
    | none => rfl
    | some q => rw [hw, hb] at hx; cases hx
theorem known_split (l : List Rpt) : l.countP (fun r => decide (r.st ≠ 0 ∧ r.st ≠ 4)) + l.countP unkR = l.length := by
  induction l with
  | nil => rfl
  | cons a l ih =>
    rw [List.countP_cons, List.countP_cons, List.length_cons]
    unfold unkR at ih ⊢
    by_cases h0 : a.st = 0 ∨ a.st = 4
    · rw [decide_eq_true h0, decide_eq_false (by omega)]
      simp only [if_true, Bool.false_eq_true, if_false]
      omega
    · rw [decide_eq_false h0, decide_eq_true (by omega)]
      simp only [if_true, Bool.false_eq_true, if_false]
      omega
theorem greatest_is {n : Nat} {l : List Rpt} {q : Rpt} (ho : okR (n : Int) l = true) (hk : n / 2 + 1 ≤ l.countP (fun r => decide (r.st ≠ 0 ∧ r.st ≠ 4))) (hb : bestR l = some q) (hl : ∀ r ∈ l, r.st = 3 → ltB q.b r.b = false) : decR (n : Int) l = (2, q.e) := by
  obtain ⟨h1, h2, _⟩ := okR_iff.1 ho
  have h3 := known_split l
  have hu : waitR l = false := by
    unfold waitR
    rw [undR_not.2 ⟨by omega, fun r hr hs hop => ?_⟩, Bool.false_and]
    rw [hb] at hop
    have : ltB q.b r.b = true := hop
    rw [hl r hr hs] at this
    cases this
  rw [dec_is ho, hu, hb]
  rfl
theorem turned_und {l k : List Rpt} (hp : l.Perm k) (hb : ∀ r, openR (bestR l) r = openR (bestR k) r) (lim many : Nat) : undR lim many l = undR lim many k := by
  rw [Bool.eq_iff_iff, undR_iff, undR_iff]
  have hg : ∀ b, lostGe l b = lostGe k b := fun b => hp.countP_eq _
  constructor
  · rintro (h | ⟨r, hr, h1, h2, h3⟩)
    · exact .inl h
    · exact .inr ⟨r, hp.mem_iff.1 hr, h1, by rw [← hb]; exact h2, by rw [← hg]; exact h3⟩
  · rintro (h | ⟨r, hr, h1, h2, h3⟩)
    · exact .inl h
    · exact .inr ⟨r, hp.mem_iff.2 hr, h1, by rw [hb]; exact h2, by rw [hg]; exact h3⟩
theorem turned_same {n : Int} {l k : List Rpt} (hp : l.Perm k) (ho : okR n l = true) (hs : ∀ x ∈ l, ∀ y ∈ l, x.st = 2 → y.st = 2 → x.b = y.b → x.e = y.e) : okR n k = true ∧ decR n k = decR n l := by
  have hok : okR n k = true := by
    obtain ⟨h1, h2, h3⟩ := okR_iff.1 ho
    exact okR_iff.2 ⟨h1, by rw [← hp.length_eq]; exact h2, fun r hr => h3 r (hp.mem_iff.2 hr)⟩
  refine ⟨hok, ?_⟩
  have hv : (∀ r, openR (bestR l) r = openR (bestR k) r) ∧ valR (bestR l) = valR (bestR k) := by
    cases hl : bestR l with
    | none =>
      have : bestR k = none := bestR_nil fun r hr => bestR_none hl r (hp.mem_iff.2 hr)
      rw [this]
      exact ⟨fun _ => rfl, rfl⟩
    | some q =>
      obtain ⟨m1, s1, g1⟩ := bestR_some hl
      cases hk : bestR k with
      | none => exact absurd s1 (bestR_none hk q (hp.mem_iff.1 m1))
      | some p =>
        obtain ⟨m2, s2, g2⟩ := bestR_some hk
        have e : q.b = p.b := ltB_eq (g1 p (hp.mem_iff.2 m2) s2) (g2 q (hp.mem_iff.1 m1) s1)
        have e2 := hs q m1 p (hp.mem_iff.2 m2) s1 s2 e
        exact ⟨fun r => by show ltB q.b r.b = ltB p.b r.b; rw [e], by show (2, q.e) = (2, p.e); rw [e2]⟩
  rw [dec_is ho, dec_is hok, hv.2]
  have hw : waitR l = waitR k := by
    unfold waitR
    rw [hp.length_eq, hp.countP_eq, turned_und hp hv.1]
    congr 1
    rw [Bool.eq_iff_iff, List.any_eq_true, List.any_eq_true]
    exact ⟨fun ⟨r, h1, h2⟩ => ⟨r, hp.mem_iff.1 h1, h2⟩, fun ⟨r, h1, h2⟩ => ⟨r, hp.mem_iff.2 h1, h2⟩⟩
  rw [hw]
def turnI (n f : Nat) (back : Bool) (i : Nat) : Nat := if back then n - 1 - (f + i) % n else (f + i) % n
theorem turn_perm : ∀ n : Fin 8, ∀ f : Fin 8, ∀ back : Bool, 0 < n.1 → f.1 < n.1 → ((List.range n.1).map (turnI n.1 f.1 back)).isPerm (List.range n.1) = true := by decide +kernel
theorem turned_perm {l k : List Rpt} {n f : Nat} {back : Bool} (hl : l.length = n) (hn : 0 < n) (h7 : n ≤ 7) (hf : f < n) (hk : k.length = n) (h : ∀ i, i < n → k[i]? = l[turnI n f back i]?) : l.Perm k := by
  have hp := List.isPerm_iff.1 (turn_perm ⟨n, by omega⟩ ⟨f, by omega⟩ back hn hf)
  have e1 : l = (List.range n).map fun i => l.getD i default := by
    refine List.ext_getElem? fun i => ?_
    rw [List.getElem?_map]
    by_cases hi : i < n
    · rw [List.getElem?_range hi, Option.map_some, List.getD_eq_getElem?_getD, List.getElem?_eq_getElem (by omega)]
      rfl
    · rw [List.getElem?_eq_none (by omega), List.getElem?_eq_none (by rw [List.length_range]; omega)]
      rfl
  have ht : ∀ i, i < n → turnI n f back i < n := fun i hi => by
    have := Nat.mod_lt (f + i) hn
    unfold turnI
    cases back
    · exact this
    · show n - 1 - (f + i) % n < n
      omega
  have e2 : k = ((List.range n).map (turnI n f back)).map fun i => l.getD i default := by
    refine List.ext_getElem? fun i => ?_
    rw [List.getElem?_map, List.getElem?_map]
    by_cases hi : i < n
    · rw [List.getElem?_range hi, Option.map_some, Option.map_some, List.getD_eq_getElem?_getD, h i hi, List.getElem?_eq_getElem (by rw [hl]; exact ht i hi)]
      rfl
    · rw [List.getElem?_eq_none (by omega), List.getElem?_eq_none (by rw [List.length_range]; omega)]
      rfl
  have := hp.map fun i => l.getD i default
  rw [← e2, ← e1] at this
  exact this.symm
end
end Go.Proofs.Ytinflpheogglhaa
