/-
  The contracts of the vote's statements' of, does, awake.
-/
import Derived.Test.YtdbpdhlecgoclaaDoorVoC
namespace Go.Proofs.YtdbpdhlecgoclaaDoor
open Go Go.RowKit

set_option maxRecDepth 100000 in
theorem vof_of (x y : Int) (w : World) : Calls Tryd.prog 16 #[.int .i64 x, .int .i64 y] w fun e w' => e = .returned (.agg #[.int .i64 x, .int .i64 y]) ∧ Ext w w' := by
  obtain ⟨f0, f1⟩ := bal_one w x y 23
  go_enter Tryd.func16, Tryd.ntmps16
  go_wp2_with fail
  refine bodyPost_ret (v := .agg #[.int .i64 x, .int .i64 y]) (by simp [results, Tryd.results16, go_sem, f0, f1]) rfl ?_
  exact ⟨rfl, (Ext.refl w).alloc _⟩
abbrev SV (w : World) (b : Nat) (x y : Int) : Prop := w.cell? ⟨b, 0, none⟩ = some (.int .i64 x) ∧ w.cell? ⟨b, 1, none⟩ = some (.int .i64 y) ∧ w.cell? ⟨0, 0, none⟩ = some (.int .u8 1) ∧ w.cell? ⟨0, 1, none⟩ = some (.int .u8 3) ∧ w.cell? ⟨0, 2, none⟩ = some (.int .u8 2)
theorem SV.ext {w w' : World} {b : Nat} {x y : Int} (hx : Ext w w') (h : SV w b x y) : SV w' b x y := ⟨ext_of_cellB hx h.1, ext_of_cellB hx h.2.1, ext_of_cellB hx h.2.2.1, ext_of_cellB hx h.2.2.2.1, ext_of_cellB hx h.2.2.2.2⟩
theorem SV.laid {w : World} {b : Nat} {x y : Int} (h : SV w b x y) : LaidV w := h.2.2
set_option maxRecDepth 100000 in
set_option maxHeartbeats 600000 in
theorem does_of (x y i z tx ty : Int) (w : World) (hL : LaidV w) (h : doV ⟨2, 1⟩ 8 ⟨x, y⟩ i = z ∧ (nowV ⟨2, 1⟩ 8 ⟨x, y⟩ i).x = tx ∧ (nowV ⟨2, 1⟩ 8 ⟨x, y⟩ i).y = ty ∧ errV 8 i = 0) : Calls Tryd.prog 17 #[.agg #[.int .i64 x, .int .i64 y], .int .i64 i, .int .u8 z, .agg #[.int .i64 tx, .int .i64 ty]] w fun e w' => e = .returned (.bool true) ∧ Ext w w' := by
  have HA := Lib.hid (fun V (hV : LaidV V) => by
    have := acceptV_of 2 1 8 x y i V hV
    rw [h.1, h.2.1, h.2.2.1, h.2.2.2] at this
    exact this)
  have H := Lib.hid (two_newV w x y tx ty)
  have hq := bal_eql tx ty tx ty
  rw [decide_eq_true (p := tx = tx ∧ ty = ty) ⟨rfl, rfl⟩] at hq
  have hg := ballot_guard
  have hz : (z == z) = true := by simp
  have hl := hL.ext H.out.2.2
  clear h hL
  go_enter Tryd.func17, Tryd.ntmps17
  go_upto_region 1 with (fail)
  generalize ((w.alloc (.cells #[.int .i64 x, .int .i64 y] 23)).alloc (.cells #[.int .i64 tx, .int .i64 ty] 23)) = W at *
  generalize hb0 : w.heap.size = b0 at *
  have hs : SV W.drew b0 x y := ⟨(bal_row H.out.1).1, (bal_row H.out.1).2.1, hl.1, hl.2.1, hl.2.2⟩
  go_region_held3 (fun w' => SV w' b0 x y)
    (first | with_reducible exact hs | assumption | go_keep | exact SV.ext ((Ext.refl _).alloc _) (by assumption))
    (first
      | (go_at_call 16; ((with_reducible refine (vof_of 2 1 _).mono ?_); rintro e w3 ⟨rfl, hx3⟩; have hs3 := SV.ext hx3 (by first | exact hs | assumption); (first | (have hr3 : w3.heap[W.heap.size]? = some (.cells #[.int .i64 0, .int .i64 0] 23 (0, 0)) := keep_rowB hx3 (heap_alloc_new W.drew (bo 0 0))) | skip)))
      | (go_at_call 11; ((with_reducible refine (HA.out _ (SV.laid (by first | exact hs3 | assumption))).mono ?_); rintro e w4 ⟨rfl, hx4⟩; have hs4 := SV.ext hx4 (by first | exact hs3 | assumption); (first | (have hr4 := keep_rowB hx4 hr3; have HX4 : Hid (Ext W.drew w4) := Lib.hid (((Ext.refl _).alloc _).trans (hx3.trans hx4)); have hlo : W.drew.heap.size ≤ W.heap.size := Nat.le_refl _; have hs5 := SV.ext (ext_two HX4.out hlo (.int .i64 tx) (.int .i64 ty)) hs; obtain ⟨c0, c1, c2, c3⟩ := bal_row hr4) | (have hr4 : w4.heap[w3.heap.size]? = some (.cells #[.int .i64 0, .int .i64 0] 23 (0, 0)) := keep_rowB hx4 (heap_alloc_new w3 (bo 0 0)); have HX4 : Hid (Ext W.drew w4) := Lib.hid (hx3.trans (((Ext.refl _).alloc _).trans hx4)); have hlo : W.drew.heap.size ≤ w3.heap.size := hx3.size; have hs5 := SV.ext (ext_two HX4.out hlo (.int .i64 tx) (.int .i64 ty)) hs; obtain ⟨c0, c1, c2, c3⟩ := bal_row hr4) | (have HX4 : Hid (Ext W.drew w4) := Lib.hid (hx3.trans hx4))))))
  all_goals
    first
      | (obtain ⟨f0, f1, _, _⟩ := bal_row (bal_store tx ty hr4)
         have HF := Lib.hid (ext_two HX4.out hlo (.int .i64 tx) (.int .i64 ty)))
      | (obtain ⟨f0, f1⟩ := bal_one w4 tx ty 23
         have HF := Lib.hid (HX4.out.alloc (bo tx ty)))
    obtain ⟨g0, g1, _, _⟩ := bal_row (keep_rowB (((Ext.refl W).drew).trans HF.out) H.out.2.1)
    have HG := Lib.hid (H.out.2.2.trans (((Ext.refl W).drew).trans HF.out))
    go_wp2_with fail
    go_ret
    exact ⟨rfl, HG.out⟩
theorem promV_lit (px py x y tx ty : Int) (b : Bool) (h : (thenV ⟨px, py⟩ ⟨x, y⟩).x = tx ∧ (thenV ⟨px, py⟩ ⟨x, y⟩).y = ty ∧ yesV ⟨px, py⟩ ⟨x, y⟩ = b) (w : World) : Calls Tryd.prog 7 #[.agg #[.int .i64 px, .int .i64 py], .agg #[.int .i64 x, .int .i64 y]] w fun e w' => e = .returned (.tuple #[.agg #[.int .i64 tx, .int .i64 ty], .bool b]) ∧ Ext w w' := by
  have := promV_of px py x y w
  rw [h.1, h.2.1, h.2.2] at this
  exact this
theorem whereV_lit (s i z e : Int) (h : whV s i = z ∧ errV s i = e) (w : World) : Calls Tryd.prog 9 #[.int .i64 s, .int .i64 i] w fun r w' => r = .returned (.tuple #[.int .u8 z, .int .i64 e]) ∧ w = w' := by
  have := whereV_of s i w
  rw [h.1, h.2] at this
  exact this
abbrev SA (w : World) (a b c : Nat) : Prop := w.cell? ⟨a, 0, none⟩ = some (.int .i64 2) ∧ w.cell? ⟨a, 1, none⟩ = some (.int .i64 1) ∧ w.cell? ⟨b, 0, none⟩ = some (.int .i64 3) ∧ w.cell? ⟨b, 1, none⟩ = some (.int .i64 0) ∧ w.cell? ⟨c, 0, none⟩ = some (.int .i64 2) ∧ w.cell? ⟨c, 1, none⟩ = some (.int .i64 1) ∧ w.cell? ⟨0, 0, none⟩ = some (.int .u8 1) ∧ w.cell? ⟨0, 1, none⟩ = some (.int .u8 3) ∧ w.cell? ⟨0, 2, none⟩ = some (.int .u8 2)
theorem SA.ext {w w' : World} {a b c : Nat} (hx : Ext w w') (h : SA w a b c) : SA w' a b c := ⟨ext_of_cellB hx h.1, ext_of_cellB hx h.2.1, ext_of_cellB hx h.2.2.1, ext_of_cellB hx h.2.2.2.1, ext_of_cellB hx h.2.2.2.2.1, ext_of_cellB hx h.2.2.2.2.2.1, ext_of_cellB hx h.2.2.2.2.2.2.1, ext_of_cellB hx h.2.2.2.2.2.2.2.1, ext_of_cellB hx h.2.2.2.2.2.2.2.2⟩
theorem SA.laid {w : World} {a b c : Nat} (h : SA w a b c) : LaidV w := ⟨h.2.2.2.2.2.2.1, h.2.2.2.2.2.2.2.1, h.2.2.2.2.2.2.2.2⟩
set_option maxRecDepth 100000 in
set_option maxHeartbeats 3200000 in
theorem vawake_any (w : World) (hL : LaidV w) : Calls Tryd.prog 13 #[] w fun e w' => e = .returned (.bool true) ∧ Ext w w' := by
  have hg := ballot_guard
  have hq0 := bal_eql 2 1 2 1
  rw [decide_eq_true (p := (2 : Int) = 2 ∧ (1 : Int) = 1) ⟨rfl, rfl⟩] at hq0
  have hq1 := bal_eql 3 0 3 0
  rw [decide_eq_true (p := (3 : Int) = 3 ∧ (0 : Int) = 0) ⟨rfl, rfl⟩] at hq1
  have HX := Lib.hid (Ext.refl w)
  have HL := Lib.hid hL
  clear hL
  go_enter Tryd.func13, Tryd.ntmps13
  go_wp2_with fail
  refine (vof_of 2 1 _).mono ?_
  rintro e w1 ⟨rfl, hx⟩
  have HX := Lib.hid (HX.out.trans hx)
  clear hx
  go_wp2_with fail
  refine (vof_of 2 1 _).mono ?_
  rintro e w2 ⟨rfl, hx⟩
  have HX := Lib.hid (HX.out.trans hx)
  clear hx
  go_wp2_with fail
  refine (promV_lit 2 1 2 1 2 1 true (by decide +kernel) _).mono ?_
  rintro e w3 ⟨rfl, hx⟩
  have hx := hx.alloc (bo 2 1)
  have HX := Lib.hid (HX.out.trans hx)
  have R3 := Lib.hid (bal_one w3 2 1 23)
  clear hx
  go_wp2_with fail
  refine (vof_of 2 1 _).mono ?_
  rintro e w4 ⟨rfl, hx⟩
  have HX := Lib.hid (HX.out.trans hx)
  have R3 := Lib.hid (BC.ext hx R3.out)
  clear hx
  go_wp2_with fail
  refine (vof_of 3 0 _).mono ?_
  rintro e w5 ⟨rfl, hx⟩
  have HX := Lib.hid (HX.out.trans hx)
  have R3 := Lib.hid (BC.ext hx R3.out)
  clear hx
  go_wp2_with fail
  refine (promV_lit 2 1 3 0 3 0 true (by decide +kernel) _).mono ?_
  rintro e w6 ⟨rfl, hx⟩
  have hx := hx.alloc (bo 3 0)
  have HX := Lib.hid (HX.out.trans hx)
  have R3 := Lib.hid (BC.ext hx R3.out)
  have R6 := Lib.hid (bal_one w6 3 0 23)
  clear hx
  go_wp2_with fail
  refine (vof_of 2 1 _).mono ?_
  rintro e w7 ⟨rfl, hx⟩
  have HX := Lib.hid (HX.out.trans hx)
  have R3 := Lib.hid (BC.ext hx R3.out)
  have R6 := Lib.hid (BC.ext hx R6.out)
  clear hx
  go_wp2_with fail
  refine (vof_of 2 0 _).mono ?_
  rintro e w8 ⟨rfl, hx⟩
  have HX := Lib.hid (HX.out.trans hx)
  have R3 := Lib.hid (BC.ext hx R3.out)
  have R6 := Lib.hid (BC.ext hx R6.out)
  clear hx
  go_wp2_with fail
  refine (promV_lit 2 1 2 0 2 1 false (by decide +kernel) _).mono ?_
  rintro e w9 ⟨rfl, hx⟩
  have hx := hx.alloc (bo 2 1)
  have HX := Lib.hid (HX.out.trans hx)
  have R3 := Lib.hid (BC.ext hx R3.out)
  have R6 := Lib.hid (BC.ext hx R6.out)
  have R9 := Lib.hid (bal_one w9 2 1 23)
  clear hx
  go_wp2_with fail
  refine (vof_of 2 1 _).mono ?_
  rintro e w10 ⟨rfl, hx⟩
  have HX := Lib.hid (HX.out.trans hx)
  have R3 := Lib.hid (BC.ext hx R3.out)
  have R6 := Lib.hid (BC.ext hx R6.out)
  have R9 := Lib.hid (BC.ext hx R9.out)
  clear hx
  go_wp2_with fail
  refine (vof_of 0 0 _).mono ?_
  rintro e w11 ⟨rfl, hx⟩
  have HX := Lib.hid (HX.out.trans hx)
  have R3 := Lib.hid (BC.ext hx R3.out)
  have R6 := Lib.hid (BC.ext hx R6.out)
  have R9 := Lib.hid (BC.ext hx R9.out)
  clear hx
  go_wp2_with fail
  refine (promV_lit 2 1 0 0 2 1 false (by decide +kernel) _).mono ?_
  rintro e w12 ⟨rfl, hx⟩
  have hx := hx.alloc (bo 2 1)
  have HX := Lib.hid (HX.out.trans hx)
  have R3 := Lib.hid (BC.ext hx R3.out)
  have R6 := Lib.hid (BC.ext hx R6.out)
  have R9 := Lib.hid (BC.ext hx R9.out)
  have R12 := Lib.hid (bal_one w12 2 1 23)
  clear hx
  go_wp2_with fail
  refine (whereV_lit 8 8 0 0 (by decide +kernel) _).mono ?_
  rintro e w13 ⟨rfl, rfl⟩
  go_wp2_with fail
  refine (whereV_lit 8 9 1 0 (by decide +kernel) _).mono ?_
  rintro e w14 ⟨rfl, rfl⟩
  go_wp2_with fail
  refine (whereV_lit 8 32 1 0 (by decide +kernel) _).mono ?_
  rintro e w15 ⟨rfl, rfl⟩
  go_wp2_with fail
  refine (whereV_lit 8 33 2 0 (by decide +kernel) _).mono ?_
  rintro e w16 ⟨rfl, rfl⟩
  go_wp2_with fail
  refine (whereV_lit 8 0 0 2 (by decide +kernel) _).mono ?_
  rintro e w17 ⟨rfl, rfl⟩
  go_upto_region 10 with (fail)
  dsimp only [List.append]
  have HD0 := Lib.hid (fun V (hV : LaidV V) => does_of 2 1 9 3 2 1 V hV (by decide +kernel))
  have HD1 := Lib.hid (fun V (hV : LaidV V) => does_of 3 0 40 2 3 0 V hV (by decide +kernel))
  have HD2 := Lib.hid (fun V (hV : LaidV V) => does_of 3 0 1 1 3 0 V hV (by decide +kernel))
  have HD3 := Lib.hid (fun V (hV : LaidV V) => does_of 1 2 9 0 2 1 V hV (by decide +kernel))
  have HS := Lib.hid (And.intro R3.out (And.intro R6.out (And.intro R9.out (HL.out.ext HX.out))))
  generalize (w12.alloc (.cells #[.int .i64 2, .int .i64 1] 23)) = W at *
  generalize w3.heap.size = b3 at *
  generalize w6.heap.size = b6 at *
  generalize w9.heap.size = b9 at *
  have HX := Lib.hid (HX.out.drew)
  have hs := SA.ext (Ext.refl W).drew ⟨HS.out.1.1, HS.out.1.2, HS.out.2.1.1, HS.out.2.1.2, HS.out.2.2.1.1, HS.out.2.2.1.2, HS.out.2.2.2.1, HS.out.2.2.2.2.1, HS.out.2.2.2.2.2⟩
  clear R3 R6 R9 R12 HL HS
  go_region_held3 (fun w' => SA w' b3 b6 b9)
    (first | with_reducible exact hs | assumption)
    (first
      | (go_at_call 16; ((with_reducible refine (vof_of _ _ _).mono ?_); rintro e wn ⟨rfl, hx⟩; have HX := Lib.hid (HX.out.trans hx); have hs := SA.ext hx hs; clear hx))
      | (go_at_call 17; (first
          | ((with_reducible refine (HD0.out _ (SA.laid hs)).mono ?_); rintro e wn ⟨rfl, hx⟩; have HX := Lib.hid (HX.out.trans hx); have hs := SA.ext hx hs; clear hx)
          | ((with_reducible refine (HD1.out _ (SA.laid hs)).mono ?_); rintro e wn ⟨rfl, hx⟩; have HX := Lib.hid (HX.out.trans hx); have hs := SA.ext hx hs; clear hx)
          | ((with_reducible refine (HD2.out _ (SA.laid hs)).mono ?_); rintro e wn ⟨rfl, hx⟩; have HX := Lib.hid (HX.out.trans hx); have hs := SA.ext hx hs; clear hx)
          | ((with_reducible refine (HD3.out _ (SA.laid hs)).mono ?_); rintro e wn ⟨rfl, hx⟩; have HX := Lib.hid (HX.out.trans hx); have hs := SA.ext hx hs; clear hx))))
  go_wp2_with fail
  go_ret
  exact ⟨rfl, HX.out⟩
end Go.Proofs.YtdbpdhlecgoclaaDoor
