/-
  The contracts of isBlank, as a method value; of which over leads, isBlank; of repeats.
-/
import Derived.Test.YtmpaocpgoihliaaGreatDoorP00
import Derived.Test.YtmpaocpgoihliaaGreatDoorP05
import Derived.Test.YtmpaocpgoihliaaGreatDoorP11
import Derived.Test.YtmpaocpgoihliaaGreatDoorP15
namespace Go.Proofs.YtmpaocpgoihliaaGreatDoor
set_option maxRecDepth 100000
section
open Go Go.RowKit
theorem blank0_of (s0 a0 b0 c0 d0 e0 s1 a1 b1 c1 d1 e1 : Int) (A0 A1 : Option Addr) (n0 m0 n1 m1 : Nat) (w : World) :
 Calls Tryz.prog 213 #[.agg #[.int .u8 s0, .int .i64 a0, .int .i64 b0, .int .i64 c0, .int .i64 d0, .int .i64 e0, .slice A0 n0 m0, .int .u8 s1, .int .i64 a1, .int .i64 b1, .int .i64 c1, .int .i64 d1, .int .i64 e1, .slice A1 n1 m1], .int .i64 0] w fun e w' => e = .returned (.bool (decide (s0 = 0))) ∧ Ext w w' := by
 have hT := heap_alloc_new w (.cells #[.int .u8 s0, .int .i64 a0, .int .i64 b0, .int .i64 c0, .int .i64 d0, .int .i64 e0, .slice A0 n0 m0, .int .u8 s1, .int .i64 a1, .int .i64 b1, .int .i64 c1, .int .i64 d1, .int .i64 e1, .slice A1 n1 m1] 220)
 have hE := (Ext.refl w).alloc (.cells #[.int .u8 s0, .int .i64 a0, .int .i64 b0, .int .i64 c0, .int .i64 d0, .int .i64 e0, .slice A0 n0 m0, .int .u8 s1, .int .i64 a1, .int .i64 b1, .int .i64 c1, .int .i64 d1, .int .i64 e1, .slice A1 n1 m1] 220)
 obtain ⟨i0, i1, i2, i3, i4, i5, i6, i7, i8, i9, i10, i11, i12, i13⟩ := pair_cells hT
 have HE := Lib.hid hE
 have hb : (s0 == 0) = decide (s0 = 0) := by rw [Bool.eq_iff_iff]; simp
 generalize decide (s0 = 0) = bb at hb ⊢
 clear hT hE
 go_enter Tryz.func213, Tryz.ntmps213
 go_wp2_with fail
 go_ret
 exact ⟨rfl, HE.out⟩
theorem blank1_of (s0 a0 b0 c0 d0 e0 s1 a1 b1 c1 d1 e1 : Int) (A0 A1 : Option Addr) (n0 m0 n1 m1 : Nat) (w : World) :
 Calls Tryz.prog 213 #[.agg #[.int .u8 s0, .int .i64 a0, .int .i64 b0, .int .i64 c0, .int .i64 d0, .int .i64 e0, .slice A0 n0 m0, .int .u8 s1, .int .i64 a1, .int .i64 b1, .int .i64 c1, .int .i64 d1, .int .i64 e1, .slice A1 n1 m1], .int .i64 1] w fun e w' => e = .returned (.bool (decide (s1 = 0))) ∧ Ext w w' := by
 have hT := heap_alloc_new w (.cells #[.int .u8 s0, .int .i64 a0, .int .i64 b0, .int .i64 c0, .int .i64 d0, .int .i64 e0, .slice A0 n0 m0, .int .u8 s1, .int .i64 a1, .int .i64 b1, .int .i64 c1, .int .i64 d1, .int .i64 e1, .slice A1 n1 m1] 220)
 have hE := (Ext.refl w).alloc (.cells #[.int .u8 s0, .int .i64 a0, .int .i64 b0, .int .i64 c0, .int .i64 d0, .int .i64 e0, .slice A0 n0 m0, .int .u8 s1, .int .i64 a1, .int .i64 b1, .int .i64 c1, .int .i64 d1, .int .i64 e1, .slice A1 n1 m1] 220)
 obtain ⟨i0, i1, i2, i3, i4, i5, i6, i7, i8, i9, i10, i11, i12, i13⟩ := pair_cells hT
 have HE := Lib.hid hE
 have hb : (s1 == 0) = decide (s1 = 0) := by rw [Bool.eq_iff_iff]; simp
 generalize decide (s1 = 0) = bb at hb ⊢
 clear hT hE
 go_enter Tryz.func213, Tryz.ntmps213
 go_wp2_with fail
 go_ret
 exact ⟨rfl, HE.out⟩
theorem which_leads (s0 a0 b0 c0 d0 e0 s1 a1 b1 c1 d1 e1 : Int) (A0 A1 : Option Addr) (n0 m0 n1 m1 : Nat) (w : World) :
 Calls Tryz.prog 211 #[.func (.func 212) #[.agg #[.int .u8 s0, .int .i64 a0, .int .i64 b0, .int .i64 c0, .int .i64 d0, .int .i64 e0, .slice A0 n0 m0, .int .u8 s1, .int .i64 a1, .int .i64 b1, .int .i64 c1, .int .i64 d1, .int .i64 e1, .slice A1 n1 m1]] #[]] w fun e w' => e = .returned (.int .i64 (pickP (decide (s0 = 1) && decide (d1 ≤ d0)) (decide (s1 = 1) && decide (d0 ≤ d1)))) ∧ Ext w w' := by
 have h0 := fun V => leads0_of s0 a0 b0 c0 d0 e0 s1 a1 b1 c1 d1 e1 A0 A1 n0 m0 n1 m1 V
 have h1 := fun V => leads1_of s0 a0 b0 c0 d0 e0 s1 a1 b1 c1 d1 e1 A0 A1 n0 m0 n1 m1 V
 obtain ⟨x, hx⟩ : ∃ x, (decide (s0 = 1) && decide (d1 ≤ d0)) = x := ⟨_, rfl⟩
 obtain ⟨y, hy⟩ : ∃ y, (decide (s1 = 1) && decide (d0 ≤ d1)) = y := ⟨_, rfl⟩
 rw [hx] at h0 ⊢
 rw [hy] at h1 ⊢
 have H0 := Lib.hid h0
 have H1 := Lib.hid h1
 clear h0 h1 hx hy
 cases x with
 | true =>
  go_enter Tryz.func211, Tryz.ntmps211
  go_wp2_with fail
  refine wp_loop_rounds 3 ?_
  rw [rounds_succ]
  go_wp2_with fail
  refine (H0.out _).mono ?_
  rintro e w1 ⟨rfl, hx⟩
  have HX := Lib.hid hx
  clear hx
  go_wp2_with fail
  go_ret
  exact ⟨rfl, HX.out⟩
 | false =>
  cases y with
  | true =>
   go_enter Tryz.func211, Tryz.ntmps211
   go_wp2_with fail
   refine wp_loop_rounds 3 ?_
   rw [rounds_succ]
   go_wp2_with fail
   refine (H0.out _).mono ?_
   rintro e w1 ⟨rfl, hx⟩
   have HX := Lib.hid hx
   clear hx
   go_wp2_with fail
   rw [rounds_succ]
   go_wp2_with fail
   refine (H1.out _).mono ?_
   rintro e w2 ⟨rfl, hx⟩
   have HX := Lib.hid (HX.out.trans hx)
   clear hx
   go_wp2_with fail
   go_ret
   exact ⟨rfl, HX.out⟩
  | false =>
   go_enter Tryz.func211, Tryz.ntmps211
   go_wp2_with fail
   refine wp_loop_rounds 3 ?_
   rw [rounds_succ]
   go_wp2_with fail
   refine (H0.out _).mono ?_
   rintro e w1 ⟨rfl, hx⟩
   have HX := Lib.hid hx
   clear hx
   go_wp2_with fail
   rw [rounds_succ]
   go_wp2_with fail
   refine (H1.out _).mono ?_
   rintro e w2 ⟨rfl, hx⟩
   have HX := Lib.hid (HX.out.trans hx)
   clear hx
   go_wp2_with fail
   rw [rounds_succ]
   go_wp2_with fail
   go_ret
   exact ⟨rfl, HX.out⟩
theorem which_blank (s0 a0 b0 c0 d0 e0 s1 a1 b1 c1 d1 e1 : Int) (A0 A1 : Option Addr) (n0 m0 n1 m1 : Nat) (w : World) :
 Calls Tryz.prog 211 #[.func (.func 213) #[.agg #[.int .u8 s0, .int .i64 a0, .int .i64 b0, .int .i64 c0, .int .i64 d0, .int .i64 e0, .slice A0 n0 m0, .int .u8 s1, .int .i64 a1, .int .i64 b1, .int .i64 c1, .int .i64 d1, .int .i64 e1, .slice A1 n1 m1]] #[]] w fun e w' => e = .returned (.int .i64 (pickP (decide (s0 = 0)) (decide (s1 = 0)))) ∧ Ext w w' := by
 have h0 := fun V => blank0_of s0 a0 b0 c0 d0 e0 s1 a1 b1 c1 d1 e1 A0 A1 n0 m0 n1 m1 V
 have h1 := fun V => blank1_of s0 a0 b0 c0 d0 e0 s1 a1 b1 c1 d1 e1 A0 A1 n0 m0 n1 m1 V
 obtain ⟨x, hx⟩ : ∃ x, (decide (s0 = 0)) = x := ⟨_, rfl⟩
 obtain ⟨y, hy⟩ : ∃ y, (decide (s1 = 0)) = y := ⟨_, rfl⟩
 rw [hx] at h0 ⊢
 rw [hy] at h1 ⊢
 have H0 := Lib.hid h0
 have H1 := Lib.hid h1
 clear h0 h1 hx hy
 cases x with
 | true =>
  go_enter Tryz.func211, Tryz.ntmps211
  go_wp2_with fail
  refine wp_loop_rounds 3 ?_
  rw [rounds_succ]
  go_wp2_with fail
  refine (H0.out _).mono ?_
  rintro e w1 ⟨rfl, hx⟩
  have HX := Lib.hid hx
  clear hx
  go_wp2_with fail
  go_ret
  exact ⟨rfl, HX.out⟩
 | false =>
  cases y with
  | true =>
   go_enter Tryz.func211, Tryz.ntmps211
   go_wp2_with fail
   refine wp_loop_rounds 3 ?_
   rw [rounds_succ]
   go_wp2_with fail
   refine (H0.out _).mono ?_
   rintro e w1 ⟨rfl, hx⟩
   have HX := Lib.hid hx
   clear hx
   go_wp2_with fail
   rw [rounds_succ]
   go_wp2_with fail
   refine (H1.out _).mono ?_
   rintro e w2 ⟨rfl, hx⟩
   have HX := Lib.hid (HX.out.trans hx)
   clear hx
   go_wp2_with fail
   go_ret
   exact ⟨rfl, HX.out⟩
  | false =>
   go_enter Tryz.func211, Tryz.ntmps211
   go_wp2_with fail
   refine wp_loop_rounds 3 ?_
   rw [rounds_succ]
   go_wp2_with fail
   refine (H0.out _).mono ?_
   rintro e w1 ⟨rfl, hx⟩
   have HX := Lib.hid hx
   clear hx
   go_wp2_with fail
   rw [rounds_succ]
   go_wp2_with fail
   refine (H1.out _).mono ?_
   rintro e w2 ⟨rfl, hx⟩
   have HX := Lib.hid (HX.out.trans hx)
   clear hx
   go_wp2_with fail
   rw [rounds_succ]
   go_wp2_with fail
   go_ret
   exact ⟨rfl, HX.out⟩
theorem held_cells {w : World} {g : Nat} {s a b c d e : Int} {A : Option Addr} {n m : Nat} {t : TypeId} (h : w.heap[g]? = some (.cells #[.int .u8 s, .int .i64 a, .int .i64 b, .int .i64 c, .int .i64 d, .int .i64 e, .slice A n m] t (0, 0))) :
 w.cell? ⟨g, 0, none⟩ = some (.int .u8 s) ∧ w.cell? ⟨g, 1, none⟩ = some (.int .i64 a) ∧ w.cell? ⟨g, 2, none⟩ = some (.int .i64 b) ∧ w.cell? ⟨g, 3, none⟩ = some (.int .i64 c) ∧ w.cell? ⟨g, 4, none⟩ = some (.int .i64 d) ∧ w.cell? ⟨g, 5, none⟩ = some (.int .i64 e) ∧ w.cell? ⟨g, 6, none⟩ = some (.slice A n m) :=
 ⟨cell_of_row w g 0 _ _ _ h, cell_of_row w g 1 _ _ _ h, cell_of_row w g 2 _ _ _ h, cell_of_row w g 3 _ _ _ h, cell_of_row w g 4 _ _ _ h, cell_of_row w g 5 _ _ _ h, cell_of_row w g 6 _ _ _ h⟩
theorem repeats_of (s0 a0 b0 c0 d0 e0 s1 a1 b1 c1 d1 e1 : Int) (A0 A1 : Option Addr) (n0 m0 n1 m1 : Nat) (x y : List Nat) (w : World) (h0 : By w A0 n0 m0 x) (h1 : By w A1 n1 m1 y) :
 Calls Tryz.prog 157 #[.agg #[.int .u8 s0, .int .i64 a0, .int .i64 b0, .int .i64 c0, .int .i64 d0, .int .i64 e0, .slice A0 n0 m0], .agg #[.int .u8 s1, .int .i64 a1, .int .i64 b1, .int .i64 c1, .int .i64 d1, .int .i64 e1, .slice A1 n1 m1]] w fun e w' => e = .returned (.bool (decide (s0 = 1) && (decide (d0 = d1) && decide (x = y)))) ∧ Ext w w' := by
 have hE0 := (Ext.refl w).alloc (.cells #[.int .u8 s0, .int .i64 a0, .int .i64 b0, .int .i64 c0, .int .i64 d0, .int .i64 e0, .slice A0 n0 m0] 218)
 have hT0 := heap_alloc_new w (.cells #[.int .u8 s0, .int .i64 a0, .int .i64 b0, .int .i64 c0, .int .i64 d0, .int .i64 e0, .slice A0 n0 m0] 218)
 have hE := hE0.alloc (.cells #[.int .u8 s1, .int .i64 a1, .int .i64 b1, .int .i64 c1, .int .i64 d1, .int .i64 e1, .slice A1 n1 m1] 218)
 have hT1 := heap_alloc_new (w.alloc (.cells #[.int .u8 s0, .int .i64 a0, .int .i64 b0, .int .i64 c0, .int .i64 d0, .int .i64 e0, .slice A0 n0 m0] 218)) (.cells #[.int .u8 s1, .int .i64 a1, .int .i64 b1, .int .i64 c1, .int .i64 d1, .int .i64 e1, .slice A1 n1 m1] 218)
 rw [show (w.alloc (.cells #[.int .u8 s0, .int .i64 a0, .int .i64 b0, .int .i64 c0, .int .i64 d0, .int .i64 e0, .slice A0 n0 m0] 218)).heap.size = w.heap.size + 1 by simp] at hT1
 have hT0 := ((Ext.refl (w.alloc (.cells #[.int .u8 s0, .int .i64 a0, .int .i64 b0, .int .i64 c0, .int .i64 d0, .int .i64 e0, .slice A0 n0 m0] 218))).alloc (.cells #[.int .u8 s1, .int .i64 a1, .int .i64 b1, .int .i64 c1, .int .i64 d1, .int .i64 e1, .slice A1 n1 m1] 218)).block _ (by simp) |>.trans hT0
 obtain ⟨i0, i1, i2, i3, i4, i5, i6⟩ := held_cells hT0
 obtain ⟨j0, j1, j2, j3, j4, j5, j6⟩ := held_cells hT1
 have HX := Lib.hid hE
 have H0 := Lib.hid (h0.ext hE)
 have H1 := Lib.hid (h1.ext hE)
 clear hT0 hT1 hE hE0 h0 h1
 by_cases hs : s0 = 1
 ·subst hs
  by_cases hd : d0 = d1
  ·subst hd
   go_enter Tryz.func157, Tryz.ntmps157
   go_wp2_with fail
   refine (equal_by _ _ x y _ _ _ _ _ H0.out H1.out).mono ?_
   rintro e w1 ⟨rfl, rfl⟩
   go_wp2_with fail
   go_ret
   exact ⟨by simp, HX.out⟩
  ·have hd1 : (d0 == d1) = false := by simpa using hd
   have HD : Hid (decide (d0 = d1) = false) := Lib.hid (decide_eq_false hd)
   clear hd
   go_enter Tryz.func157, Tryz.ntmps157
   go_wp2_with fail
   go_ret
   exact ⟨by rw [HD.out]; rfl, HX.out⟩
 ·have hs1 : (s0 == 1) = false := by simpa using hs
  have HS : Hid (decide (s0 = 1) = false) := Lib.hid (decide_eq_false hs)
  clear hs
  go_enter Tryz.func157, Tryz.ntmps157
  go_wp2_with fail
  go_ret
  exact ⟨by rw [HS.out]; rfl, HX.out⟩
end
section
open Go Go.RowKit
theorem held_free {w : World} {g : Nat} {x0 x1 x2 x3 x4 x5 x6 : Value} {t : TypeId} (h : w.heap[g]? = some (.cells #[x0, x1, x2, x3, x4, x5, x6] t (0, 0))) :
 (w.cell? ⟨g, 0, none⟩ = some x0 ∧ w.cell? ⟨g, 1, none⟩ = some x1 ∧ w.cell? ⟨g, 2, none⟩ = some x2 ∧ w.cell? ⟨g, 3, none⟩ = some x3 ∧ w.cell? ⟨g, 4, none⟩ = some x4 ∧ w.cell? ⟨g, 5, none⟩ = some x5 ∧ w.cell? ⟨g, 6, none⟩ = some x6) ∧
 w.frozen? ⟨g, 0, none⟩ = false ∧ w.frozen? ⟨g, 1, none⟩ = false ∧ w.frozen? ⟨g, 2, none⟩ = false ∧ w.frozen? ⟨g, 3, none⟩ = false ∧ w.frozen? ⟨g, 4, none⟩ = false ∧ w.frozen? ⟨g, 5, none⟩ = false ∧ w.frozen? ⟨g, 6, none⟩ = false :=
 ⟨⟨cell_of_row w g 0 _ _ _ h, cell_of_row w g 1 _ _ _ h, cell_of_row w g 2 _ _ _ h, cell_of_row w g 3 _ _ _ h, cell_of_row w g 4 _ _ _ h, cell_of_row w g 5 _ _ _ h, cell_of_row w g 6 _ _ _ h⟩,
   frozen_of_row w g 0 _ _ h, frozen_of_row w g 1 _ _ h, frozen_of_row w g 2 _ _ h, frozen_of_row w g 3 _ _ h, frozen_of_row w g 4 _ _ h, frozen_of_row w g 5 _ _ h, frozen_of_row w g 6 _ _ h⟩
theorem seven_row {w : World} {g t : Nat} {y0 y1 y2 y3 y4 y5 y6 : Value} (h : w.heap[g]? = some (.cells #[y0, y1, y2, y3, y4, y5, y6] t (0, 0))) (x0 x1 x2 x3 x4 x5 x6 : Value) :
 (((((((w.setCell ⟨g, 0, none⟩ x0).setCell ⟨g, 1, none⟩ x1).setCell ⟨g, 2, none⟩ x2).setCell ⟨g, 3, none⟩ x3).setCell ⟨g, 4, none⟩ x4).setCell ⟨g, 5, none⟩ x5).setCell ⟨g, 6, none⟩ x6).heap[g]? = some (.cells #[x0, x1, x2, x3, x4, x5, x6] t (0, 0)) := by
 have h0 := row_set (cs' := #[x0, y1, y2, y3, y4, y5, y6]) 0 h x0 rfl
 have h1 := row_set (cs' := #[x0, x1, y2, y3, y4, y5, y6]) 1 h0 x1 rfl
 have h2 := row_set (cs' := #[x0, x1, x2, y3, y4, y5, y6]) 2 h1 x2 rfl
 have h3 := row_set (cs' := #[x0, x1, x2, x3, y4, y5, y6]) 3 h2 x3 rfl
 have h4 := row_set (cs' := #[x0, x1, x2, x3, x4, y5, y6]) 4 h3 x4 rfl
 have h5 := row_set (cs' := #[x0, x1, x2, x3, x4, x5, y6]) 5 h4 x5 rfl
 exact row_set (cs' := #[x0, x1, x2, x3, x4, x5, x6]) 6 h5 x6 rfl
theorem seven_mod (w : World) (g : Nat) (x0 x1 x2 x3 x4 x5 x6 : Value) : Mod (fun i => i = g) w (((((((w.setCell ⟨g, 0, none⟩ x0).setCell ⟨g, 1, none⟩ x1).setCell ⟨g, 2, none⟩ x2).setCell ⟨g, 3, none⟩ x3).setCell ⟨g, 4, none⟩ x4).setCell ⟨g, 5, none⟩ x5).setCell ⟨g, 6, none⟩ x6) :=
 Mod.setCell (Mod.setCell (Mod.setCell (Mod.setCell (Mod.setCell (Mod.setCell (Mod.setCell (Mod.refl (fun i => i = g) w) (p := ⟨g, 0, none⟩) (.inl rfl) _) (p := ⟨g, 1, none⟩) (.inl rfl) _) (p := ⟨g, 2, none⟩) (.inl rfl) _) (p := ⟨g, 3, none⟩) (.inl rfl) _) (p := ⟨g, 4, none⟩) (.inl rfl) _) (p := ⟨g, 5, none⟩) (.inl rfl) _) (p := ⟨g, 6, none⟩) (.inl rfl) _
theorem By.mod0 {F : Nat → Prop} {w w' : World} {A : Option Addr} {n cp : Nat} {l : List Nat} (h : By w A n cp l) (k : Mod F w w') (ho : ∀ g o, A = some ⟨g, o, none⟩ → 0 < n → ¬ F g) : By w' A n cp l := by
 refine ⟨h.len, h.cap, h.most, ⟨h.rd.1, fun hn => ?_⟩, Bs.nil_ h⟩
 obtain ⟨g, o, e, hg, hc⟩ := h.rd.2 hn
 refine ⟨g, o, e, Nat.lt_of_lt_of_le hg k.size, fun j x hx => ?_⟩
 rw [← hc j x hx]
 exact World.cell?_of_block (a := ⟨g, o + j, none⟩) (k.block g hg (ho g o e (by have := h.len; omega)))
set_option maxHeartbeats 800000 in
theorem read_held {w : World} {d : Nat} {F : Nat → Prop} {m : DM} (h : PDisk w d F m) (hL : LaidF w) (r g p : Int) (hfew : m.waits.length ≤ 1000000) :
 Calls Tryz.prog 210 #[.pointer (some ⟨d, 0, none⟩), .int .i64 r, .int .i64 g, .int .i64 p] w fun e w' => ∃ A N, e = .returned (.agg #[.int .u8 (stM (m.cb g p) r g p : Nat), .int .i64 (mfl (m.cb g p) r g p 0 : Nat), .int .i64 (mfl (m.cb g p) r g p 1 : Nat), .int .i64 (mfl (m.cb g p) r g p 2 : Nat), .int .i64 (mfl (m.cb g p) r g p 3 : Nat), .int .i64 (mfl (m.cb g p) r g p 4 : Nat), .slice A N N]) ∧
  By w' A N N (mbl (m.cb g p) r g p) ∧ (∀ g o, A = some ⟨g, o, none⟩ → 0 < N → w.heap.size ≤ g) ∧ Ext w w' := by
 have hT := heap_alloc_new w (.cells #[.int .u8 0, .int .i64 0, .int .i64 0, .int .i64 0, .int .i64 0, .int .i64 0, .slice none 0 0] 218)
 have hE := (Ext.refl w).alloc (.cells #[.int .u8 0, .int .i64 0, .int .i64 0, .int .i64 0, .int .i64 0, .int .i64 0, .slice none 0 0] 218)
 have hlt : w.heap.size < (w.alloc (.cells #[.int .u8 0, .int .i64 0, .int .i64 0, .int .i64 0, .int .i64 0, .int .i64 0, .slice none 0 0] 218)).heap.size := by simp
 have HT := Lib.hid hT
 have HE := Lib.hid hE
 have H := Lib.hid h
 have HL := Lib.hid hL
 have HF := Lib.hid hfew
 unfold DM.cb
 obtain ⟨S, hS⟩ : ∃ S, firstS g p = S := ⟨_, rfl⟩
 have HS := Lib.hid hS
 have hrd : ∀ V, Ext w V → Calls Tryz.prog 220 #[.pointer (some ⟨d, 0, none⟩), .int .i64 S] V fun e w' => ∃ A n, e = .returned (.tuple #[.slice A n n, .int .i64 (m.read S).2]) ∧ New V.heap.size w' A n (m.read S).1 ∧ Ext V w' := fun V hV => read_pd (h.ext hV) S hfew
 rw [hS]
 obtain ⟨x, hx⟩ : ∃ x, (m.read S).1 = x := ⟨_, rfl⟩
 obtain ⟨E, hEE⟩ : ∃ E, (m.read S).2 = E := ⟨_, rfl⟩
 rw [hx]
 rw [hx, hEE] at hrd
 have HRD := Lib.hid hrd
 clear hT hE h hL hS hfew hrd hx hEE
 go_enter Tryz.func210, Tryz.ntmps210
 go_wp2_with fail
 refine (first_any g p _ (HL.out.ext HE.out).a.t).mono ?_
 rw [HS.out]
 rintro e w1 ⟨rfl, hx⟩
 have HK := Lib.hid hx
 clear hx
 go_wp2_with fail
 refine (HRD.out _ (HE.out.trans HK.out)).mono ?_
 rintro e w2 ⟨A, n, rfl, hn, hx⟩
 have HB := Lib.hid hn.by
 have HK := Lib.hid (HK.out.trans hx)
 clear hx hn
 go_wp2_with fail
 refine (mine_own A n n x r g p _ (HL.out.ext (HE.out.trans HK.out)) HB.out).mono ?_
 rintro e w3 ⟨A3, N3, rfl, hb, hge, hx⟩
 have HE3 := Lib.hid ((HE.out.trans HK.out).trans hx)
 have hrow := ((HK.out.trans hx).block _ hlt).trans HT.out
 have HGE : Hid (∀ g o, A3 = some ⟨g, o, none⟩ → 0 < N3 → w.heap.size + 1 ≤ g) := Lib.hid fun g o hA hN => by
  have h1 := hge g o hA hN
  have h2 := HK.out.size
  simp at h2
  omega
 have HB := Lib.hid hb
 have HROW := Lib.hid hrow
 have hsz3 : w.heap.size < w3.heap.size := (Array.getElem?_eq_some_iff.1 hrow).1
 obtain ⟨⟨c0, c1, c2, c3, c4, c5, c6⟩, f0, f1, f2, f3, f4, f5, f6⟩ := held_free hrow
 clear hb hge hx hrow HT HE HK
 go_wp2_with fail
 have hrow := seven_row HROW.out (.int .u8 (stM x r g p : Nat)) (.int .i64 (mfl x r g p 0 : Nat)) (.int .i64 (mfl x r g p 1 : Nat)) (.int .i64 (mfl x r g p 2 : Nat)) (.int .i64 (mfl x r g p 3 : Nat)) (.int .i64 (mfl x r g p 4 : Nat)) (.slice A3 N3 N3)
 have hm := seven_mod w3 w.heap.size (.int .u8 (stM x r g p : Nat)) (.int .i64 (mfl x r g p 0 : Nat)) (.int .i64 (mfl x r g p 1 : Nat)) (.int .i64 (mfl x r g p 2 : Nat)) (.int .i64 (mfl x r g p 3 : Nat)) (.int .i64 (mfl x r g p 4 : Nat)) (.slice A3 N3 N3)
 clear c0 c1 c2 c3 c4 c5 c6 f0 f1 f2 f3 f4 f5 f6
 generalize (((((((w3.setCell ⟨w.heap.size, 0, none⟩ (.int .u8 (stM x r g p : Nat))).setCell ⟨w.heap.size, 1, none⟩ (.int .i64 (mfl x r g p 0 : Nat))).setCell ⟨w.heap.size, 2, none⟩ (.int .i64 (mfl x r g p 1 : Nat))).setCell ⟨w.heap.size, 3, none⟩ (.int .i64 (mfl x r g p 2 : Nat))).setCell ⟨w.heap.size, 4, none⟩ (.int .i64 (mfl x r g p 3 : Nat))).setCell ⟨w.heap.size, 5, none⟩ (.int .i64 (mfl x r g p 4 : Nat))).setCell ⟨w.heap.size, 6, none⟩ (.slice A3 N3 N3)) = V at hrow hm ⊢
 have hb := HB.out.mod0 hm (fun g o hA hN e => by have := HGE.out g o hA hN; omega)
 have hx := Below.mod HE3.out hm HE3.out.size (fun i hi => Nat.le_of_eq hi.symm)
 have hr2 := (((Ext.refl V).alloc (.cells #[.int .i64 (mfl x r g p 0 : Nat), .int .i64 (mfl x r g p 1 : Nat), .int .i64 (mfl x r g p 2 : Nat), .int .i64 (mfl x r g p 3 : Nat), .int .i64 (mfl x r g p 4 : Nat)] 44)).block _ (Array.getElem?_eq_some_iff.1 hrow).1).trans hrow
 obtain ⟨c0, c1, c2, c3, c4, c5, c6⟩ := held_cells hr2
 have HB := Lib.hid (hb.ext ((Ext.refl V).alloc (.cells #[.int .i64 (mfl x r g p 0 : Nat), .int .i64 (mfl x r g p 1 : Nat), .int .i64 (mfl x r g p 2 : Nat), .int .i64 (mfl x r g p 3 : Nat), .int .i64 (mfl x r g p 4 : Nat)] 44)))
 have HX := Lib.hid (Ext.trans hx ((Ext.refl V).alloc (.cells #[.int .i64 (mfl x r g p 0 : Nat), .int .i64 (mfl x r g p 1 : Nat), .int .i64 (mfl x r g p 2 : Nat), .int .i64 (mfl x r g p 3 : Nat), .int .i64 (mfl x r g p 4 : Nat)] 44)))
 refine bodyPost_ret (v := .agg #[.int .u8 (stM x r g p : Nat), .int .i64 (mfl x r g p 0 : Nat), .int .i64 (mfl x r g p 1 : Nat), .int .i64 (mfl x r g p 2 : Nat), .int .i64 (mfl x r g p 3 : Nat), .int .i64 (mfl x r g p 4 : Nat), .slice A3 N3 N3]) ?_ rfl ?_
 ·simp [results, Tryz.results210, go_sem, c0, c1, c2, c3, c4, c5, c6]
 ·exact ⟨A3, N3, rfl, HB.out, fun g o hA hN => by have := HGE.out g o hA hN; omega, HX.out⟩
end
end Go.Proofs.YtmpaocpgoihliaaGreatDoor
