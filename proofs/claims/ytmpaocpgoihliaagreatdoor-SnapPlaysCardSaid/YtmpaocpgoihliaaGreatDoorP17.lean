/-
  The contract of load: what both places hold, which copy is loaded.
-/
import Derived.Test.YtmpaocpgoihliaaGreatDoorP00
import Derived.Test.YtmpaocpgoihliaaGreatDoorP05
import Derived.Test.YtmpaocpgoihliaaGreatDoorP16
namespace Go.Proofs.YtmpaocpgoihliaaGreatDoor
set_option maxRecDepth 100000
section
open Go Go.RowKit
theorem lo_row {w : World} {g t : Nat} {y0 y1 y2 y3 y4 y5 y6 y7 y8 y9 y10 y11 y12 y13 : Value} (h : w.heap[g]? = some (.cells #[y0, y1, y2, y3, y4, y5, y6, y7, y8, y9, y10, y11, y12, y13] t (0, 0))) (x0 x1 x2 x3 x4 x5 x6 : Value) :
 (((((((w.setCell ⟨g, 0, none⟩ x0).setCell ⟨g, 1, none⟩ x1).setCell ⟨g, 2, none⟩ x2).setCell ⟨g, 3, none⟩ x3).setCell ⟨g, 4, none⟩ x4).setCell ⟨g, 5, none⟩ x5).setCell ⟨g, 6, none⟩ x6).heap[g]? = some (.cells #[x0, x1, x2, x3, x4, x5, x6, y7, y8, y9, y10, y11, y12, y13] t (0, 0)) := by
 have h0 := row_set (cs' := #[x0, y1, y2, y3, y4, y5, y6, y7, y8, y9, y10, y11, y12, y13]) 0 h x0 rfl
 have h1 := row_set (cs' := #[x0, x1, y2, y3, y4, y5, y6, y7, y8, y9, y10, y11, y12, y13]) 1 h0 x1 rfl
 have h2 := row_set (cs' := #[x0, x1, x2, y3, y4, y5, y6, y7, y8, y9, y10, y11, y12, y13]) 2 h1 x2 rfl
 have h3 := row_set (cs' := #[x0, x1, x2, x3, y4, y5, y6, y7, y8, y9, y10, y11, y12, y13]) 3 h2 x3 rfl
 have h4 := row_set (cs' := #[x0, x1, x2, x3, x4, y5, y6, y7, y8, y9, y10, y11, y12, y13]) 4 h3 x4 rfl
 have h5 := row_set (cs' := #[x0, x1, x2, x3, x4, x5, y6, y7, y8, y9, y10, y11, y12, y13]) 5 h4 x5 rfl
 exact row_set (cs' := #[x0, x1, x2, x3, x4, x5, x6, y7, y8, y9, y10, y11, y12, y13]) 6 h5 x6 rfl
theorem hi_row {w : World} {g t : Nat} {y0 y1 y2 y3 y4 y5 y6 y7 y8 y9 y10 y11 y12 y13 : Value} (h : w.heap[g]? = some (.cells #[y0, y1, y2, y3, y4, y5, y6, y7, y8, y9, y10, y11, y12, y13] t (0, 0))) (x0 x1 x2 x3 x4 x5 x6 : Value) :
 (((((((w.setCell ⟨g, 7, none⟩ x0).setCell ⟨g, 8, none⟩ x1).setCell ⟨g, 9, none⟩ x2).setCell ⟨g, 10, none⟩ x3).setCell ⟨g, 11, none⟩ x4).setCell ⟨g, 12, none⟩ x5).setCell ⟨g, 13, none⟩ x6).heap[g]? = some (.cells #[y0, y1, y2, y3, y4, y5, y6, x0, x1, x2, x3, x4, x5, x6] t (0, 0)) := by
 have h0 := row_set (cs' := #[y0, y1, y2, y3, y4, y5, y6, x0, y8, y9, y10, y11, y12, y13]) 7 h x0 rfl
 have h1 := row_set (cs' := #[y0, y1, y2, y3, y4, y5, y6, x0, x1, y9, y10, y11, y12, y13]) 8 h0 x1 rfl
 have h2 := row_set (cs' := #[y0, y1, y2, y3, y4, y5, y6, x0, x1, x2, y10, y11, y12, y13]) 9 h1 x2 rfl
 have h3 := row_set (cs' := #[y0, y1, y2, y3, y4, y5, y6, x0, x1, x2, x3, y11, y12, y13]) 10 h2 x3 rfl
 have h4 := row_set (cs' := #[y0, y1, y2, y3, y4, y5, y6, x0, x1, x2, x3, x4, y12, y13]) 11 h3 x4 rfl
 have h5 := row_set (cs' := #[y0, y1, y2, y3, y4, y5, y6, x0, x1, x2, x3, x4, x5, y13]) 12 h4 x5 rfl
 exact row_set (cs' := #[y0, y1, y2, y3, y4, y5, y6, x0, x1, x2, x3, x4, x5, x6]) 13 h5 x6 rfl
theorem hi_mod (w : World) (g : Nat) (x0 x1 x2 x3 x4 x5 x6 : Value) : Mod (fun i => i = g) w (((((((w.setCell ⟨g, 7, none⟩ x0).setCell ⟨g, 8, none⟩ x1).setCell ⟨g, 9, none⟩ x2).setCell ⟨g, 10, none⟩ x3).setCell ⟨g, 11, none⟩ x4).setCell ⟨g, 12, none⟩ x5).setCell ⟨g, 13, none⟩ x6) :=
 Mod.setCell (Mod.setCell (Mod.setCell (Mod.setCell (Mod.setCell (Mod.setCell (Mod.setCell (Mod.refl (fun i => i = g) w) (p := ⟨g, 7, none⟩) (.inl rfl) _) (p := ⟨g, 8, none⟩) (.inl rfl) _) (p := ⟨g, 9, none⟩) (.inl rfl) _) (p := ⟨g, 10, none⟩) (.inl rfl) _) (p := ⟨g, 11, none⟩) (.inl rfl) _) (p := ⟨g, 12, none⟩) (.inl rfl) _) (p := ⟨g, 13, none⟩) (.inl rfl) _
theorem free14 {w : World} {g : Nat} {y0 y1 y2 y3 y4 y5 y6 y7 y8 y9 y10 y11 y12 y13 : Value} {t : TypeId} (h : w.heap[g]? = some (.cells #[y0, y1, y2, y3, y4, y5, y6, y7, y8, y9, y10, y11, y12, y13] t (0, 0))) :
 (w.cell? ⟨g, 0, none⟩ = some y0 ∧ w.cell? ⟨g, 1, none⟩ = some y1 ∧ w.cell? ⟨g, 2, none⟩ = some y2 ∧ w.cell? ⟨g, 3, none⟩ = some y3 ∧ w.cell? ⟨g, 4, none⟩ = some y4 ∧ w.cell? ⟨g, 5, none⟩ = some y5 ∧ w.cell? ⟨g, 6, none⟩ = some y6 ∧ w.cell? ⟨g, 7, none⟩ = some y7 ∧ w.cell? ⟨g, 8, none⟩ = some y8 ∧ w.cell? ⟨g, 9, none⟩ = some y9 ∧ w.cell? ⟨g, 10, none⟩ = some y10 ∧ w.cell? ⟨g, 11, none⟩ = some y11 ∧ w.cell? ⟨g, 12, none⟩ = some y12 ∧ w.cell? ⟨g, 13, none⟩ = some y13) ∧ w.frozen? ⟨g, 0, none⟩ = false ∧ w.frozen? ⟨g, 1, none⟩ = false ∧ w.frozen? ⟨g, 2, none⟩ = false ∧ w.frozen? ⟨g, 3, none⟩ = false ∧ w.frozen? ⟨g, 4, none⟩ = false ∧ w.frozen? ⟨g, 5, none⟩ = false ∧ w.frozen? ⟨g, 6, none⟩ = false ∧ w.frozen? ⟨g, 7, none⟩ = false ∧ w.frozen? ⟨g, 8, none⟩ = false ∧ w.frozen? ⟨g, 9, none⟩ = false ∧ w.frozen? ⟨g, 10, none⟩ = false ∧ w.frozen? ⟨g, 11, none⟩ = false ∧ w.frozen? ⟨g, 12, none⟩ = false ∧ w.frozen? ⟨g, 13, none⟩ = false :=
 ⟨⟨cell_of_row w g 0 _ _ _ h, cell_of_row w g 1 _ _ _ h, cell_of_row w g 2 _ _ _ h, cell_of_row w g 3 _ _ _ h, cell_of_row w g 4 _ _ _ h, cell_of_row w g 5 _ _ _ h, cell_of_row w g 6 _ _ _ h, cell_of_row w g 7 _ _ _ h, cell_of_row w g 8 _ _ _ h, cell_of_row w g 9 _ _ _ h, cell_of_row w g 10 _ _ _ h, cell_of_row w g 11 _ _ _ h, cell_of_row w g 12 _ _ _ h, cell_of_row w g 13 _ _ _ h⟩, frozen_of_row w g 0 _ _ h, frozen_of_row w g 1 _ _ h, frozen_of_row w g 2 _ _ h, frozen_of_row w g 3 _ _ h, frozen_of_row w g 4 _ _ h, frozen_of_row w g 5 _ _ h, frozen_of_row w g 6 _ _ h, frozen_of_row w g 7 _ _ h, frozen_of_row w g 8 _ _ h, frozen_of_row w g 9 _ _ h, frozen_of_row w g 10 _ _ h, frozen_of_row w g 11 _ _ h, frozen_of_row w g 12 _ _ h, frozen_of_row w g 13 _ _ h⟩
theorem dec_cast (n : Nat) (k : Nat) : decide ((n : Int) = (k : Int)) = decide (n = k) := decide_eq_decide.2 (by omega)
theorem dec_le (n : Nat) (k : Nat) : decide ((n : Int) ≤ (k : Int)) = decide (n ≤ k) := decide_eq_decide.2 (by omega)
theorem which_at (r g : Int) (x y : List Nat) (A0 : Option Addr) (N0 : Nat) (A1 : Option Addr) (N1 : Nat) (w : World) :
 Calls Tryz.prog 211 #[.func (.func 212) #[.agg #[.int .u8 (stM x r g 0 : Nat), .int .i64 (mfl x r g 0 0 : Nat), .int .i64 (mfl x r g 0 1 : Nat), .int .i64 (mfl x r g 0 2 : Nat), .int .i64 (mfl x r g 0 3 : Nat), .int .i64 (mfl x r g 0 4 : Nat), .slice A0 N0 N0, .int .u8 (stM y r g 1 : Nat), .int .i64 (mfl y r g 1 0 : Nat), .int .i64 (mfl y r g 1 1 : Nat), .int .i64 (mfl y r g 1 2 : Nat), .int .i64 (mfl y r g 1 3 : Nat), .int .i64 (mfl y r g 1 4 : Nat), .slice A1 N1 N1]] #[]] w fun e w' => e = .returned (.int .i64 (atC r g x y)) ∧ Ext w w' := by
 have h := which_leads (stM x r g 0 : Nat) (mfl x r g 0 0 : Nat) (mfl x r g 0 1 : Nat) (mfl x r g 0 2 : Nat) (mfl x r g 0 3 : Nat) (mfl x r g 0 4 : Nat) (stM y r g 1 : Nat) (mfl y r g 1 0 : Nat) (mfl y r g 1 1 : Nat) (mfl y r g 1 2 : Nat) (mfl y r g 1 3 : Nat) (mfl y r g 1 4 : Nat) A0 A1 N0 N0 N1 N1 w
 rw [show (1 : Int) = ((1 : Nat) : Int) from rfl, dec_cast, dec_cast, dec_le, dec_le] at h
 exact h
theorem which_bl (r g : Int) (x y : List Nat) (A0 : Option Addr) (N0 : Nat) (A1 : Option Addr) (N1 : Nat) (w : World) :
 Calls Tryz.prog 211 #[.func (.func 213) #[.agg #[.int .u8 (stM x r g 0 : Nat), .int .i64 (mfl x r g 0 0 : Nat), .int .i64 (mfl x r g 0 1 : Nat), .int .i64 (mfl x r g 0 2 : Nat), .int .i64 (mfl x r g 0 3 : Nat), .int .i64 (mfl x r g 0 4 : Nat), .slice A0 N0 N0, .int .u8 (stM y r g 1 : Nat), .int .i64 (mfl y r g 1 0 : Nat), .int .i64 (mfl y r g 1 1 : Nat), .int .i64 (mfl y r g 1 2 : Nat), .int .i64 (mfl y r g 1 3 : Nat), .int .i64 (mfl y r g 1 4 : Nat), .slice A1 N1 N1]] #[]] w fun e w' => e = .returned (.int .i64 (blankC r g x y)) ∧ Ext w w' := by
 have h := which_blank (stM x r g 0 : Nat) (mfl x r g 0 0 : Nat) (mfl x r g 0 1 : Nat) (mfl x r g 0 2 : Nat) (mfl x r g 0 3 : Nat) (mfl x r g 0 4 : Nat) (stM y r g 1 : Nat) (mfl y r g 1 0 : Nat) (mfl y r g 1 1 : Nat) (mfl y r g 1 2 : Nat) (mfl y r g 1 3 : Nat) (mfl y r g 1 4 : Nat) A0 A1 N0 N0 N1 N1 w
 rw [show (0 : Int) = ((0 : Nat) : Int) from rfl, dec_cast, dec_cast] at h
 exact h
theorem cells14 {w : World} {g : Nat} {y0 y1 y2 y3 y4 y5 y6 y7 y8 y9 y10 y11 y12 y13 : Value} {t : TypeId} (h : w.heap[g]? = some (.cells #[y0, y1, y2, y3, y4, y5, y6, y7, y8, y9, y10, y11, y12, y13] t (0, 0))) : w.cell? ⟨g, 0, none⟩ = some y0 ∧ w.cell? ⟨g, 1, none⟩ = some y1 ∧ w.cell? ⟨g, 2, none⟩ = some y2 ∧ w.cell? ⟨g, 3, none⟩ = some y3 ∧ w.cell? ⟨g, 4, none⟩ = some y4 ∧ w.cell? ⟨g, 5, none⟩ = some y5 ∧ w.cell? ⟨g, 6, none⟩ = some y6 ∧ w.cell? ⟨g, 7, none⟩ = some y7 ∧ w.cell? ⟨g, 8, none⟩ = some y8 ∧ w.cell? ⟨g, 9, none⟩ = some y9 ∧ w.cell? ⟨g, 10, none⟩ = some y10 ∧ w.cell? ⟨g, 11, none⟩ = some y11 ∧ w.cell? ⟨g, 12, none⟩ = some y12 ∧ w.cell? ⟨g, 13, none⟩ = some y13 := (free14 h).1
theorem row_keep {V W : World} {g : Nat} {o : Obj} (k : Hid (Ext V.drew W)) (h : Hid (V.heap[g]? = some o)) : W.heap[g]? = some o := (k.out.block g (Array.getElem?_eq_some_iff.1 h.out).1).trans h.out
theorem all_mod (w : World) (g : Nat) (y0 y1 y2 y3 y4 y5 y6 y7 y8 y9 y10 y11 y12 y13 : Value) : Mod (fun i => i = g) w ((((((((((((((w.setCell ⟨g, 0, none⟩ y0).setCell ⟨g, 1, none⟩ y1).setCell ⟨g, 2, none⟩ y2).setCell ⟨g, 3, none⟩ y3).setCell ⟨g, 4, none⟩ y4).setCell ⟨g, 5, none⟩ y5).setCell ⟨g, 6, none⟩ y6).setCell ⟨g, 7, none⟩ y7).setCell ⟨g, 8, none⟩ y8).setCell ⟨g, 9, none⟩ y9).setCell ⟨g, 10, none⟩ y10).setCell ⟨g, 11, none⟩ y11).setCell ⟨g, 12, none⟩ y12).setCell ⟨g, 13, none⟩ y13) :=
 (seven_mod w g y0 y1 y2 y3 y4 y5 y6).trans (hi_mod _ g y7 y8 y9 y10 y11 y12 y13) fun _ h => .inl h
theorem all_row {w : World} {g t : Nat} {z0 z1 z2 z3 z4 z5 z6 z7 z8 z9 z10 z11 z12 z13 : Value} (h : w.heap[g]? = some (.cells #[z0, z1, z2, z3, z4, z5, z6, z7, z8, z9, z10, z11, z12, z13] t (0, 0))) (y0 y1 y2 y3 y4 y5 y6 y7 y8 y9 y10 y11 y12 y13 : Value) :
 ((((((((((((((w.setCell ⟨g, 0, none⟩ y0).setCell ⟨g, 1, none⟩ y1).setCell ⟨g, 2, none⟩ y2).setCell ⟨g, 3, none⟩ y3).setCell ⟨g, 4, none⟩ y4).setCell ⟨g, 5, none⟩ y5).setCell ⟨g, 6, none⟩ y6).setCell ⟨g, 7, none⟩ y7).setCell ⟨g, 8, none⟩ y8).setCell ⟨g, 9, none⟩ y9).setCell ⟨g, 10, none⟩ y10).setCell ⟨g, 11, none⟩ y11).setCell ⟨g, 12, none⟩ y12).setCell ⟨g, 13, none⟩ y13).heap[g]? = some (.cells #[y0, y1, y2, y3, y4, y5, y6, y7, y8, y9, y10, y11, y12, y13] t (0, 0)) := hi_row (lo_row h y0 y1 y2 y3 y4 y5 y6) y7 y8 y9 y10 y11 y12 y13
set_option maxHeartbeats 1600000 in
theorem load_at {w : World} {d : Nat} {F : Nat → Prop} {m : DM} (h : PDisk w d F m) (hL : LaidF w) (r g : Int) (hfew : m.waits.length ≤ 1000000) (hu : m.up = true) (x y : List Nat) (hx : m.cb g 0 = x) (hy : m.cb g 1 = y) (K : Int) (hK : K ≠ -1) (HAT : Hid (atC r g x y = K)) :
 Calls Tryz.prog 155 #[.pointer (some ⟨d, 0, none⟩), .int .i64 r, .int .i64 g] w fun e w' => ∃ A0 N0 A1 N1, e = .returned (.tuple #[.agg #[.int .u8 (stM x r g 0 : Nat), .int .i64 (mfl x r g 0 0 : Nat), .int .i64 (mfl x r g 0 1 : Nat), .int .i64 (mfl x r g 0 2 : Nat), .int .i64 (mfl x r g 0 3 : Nat), .int .i64 (mfl x r g 0 4 : Nat), .slice A0 N0 N0, .int .u8 (stM y r g 1 : Nat), .int .i64 (mfl y r g 1 0 : Nat), .int .i64 (mfl y r g 1 1 : Nat), .int .i64 (mfl y r g 1 2 : Nat), .int .i64 (mfl y r g 1 3 : Nat), .int .i64 (mfl y r g 1 4 : Nat), .slice A1 N1 N1], .int .i64 K, .int .i64 0]) ∧ (By w' A0 N0 N0 (mbl x r g 0) ∧ ∀ g o, A0 = some ⟨g, o, none⟩ → 0 < N0 → w.heap.size ≤ g) ∧ (By w' A1 N1 N1 (mbl y r g 1) ∧ ∀ g o, A1 = some ⟨g, o, none⟩ → 0 < N1 → w.heap.size ≤ g) ∧ Ext w w' := by
 have hk1 : (K == -1) = false := by simpa using hK
 clear hK
 have hT := heap_alloc_new w (.cells #[.int .u8 0, .int .i64 0, .int .i64 0, .int .i64 0, .int .i64 0, .int .i64 0, .slice none 0 0, .int .u8 0, .int .i64 0, .int .i64 0, .int .i64 0, .int .i64 0, .int .i64 0, .slice none 0 0] 220)
 have hE := (Ext.refl w).alloc (.cells #[.int .u8 0, .int .i64 0, .int .i64 0, .int .i64 0, .int .i64 0, .int .i64 0, .slice none 0 0, .int .u8 0, .int .i64 0, .int .i64 0, .int .i64 0, .int .i64 0, .int .i64 0, .slice none 0 0] 220)
 have HT := Lib.hid hT
 have HE := Lib.hid hE
 have hup := up_pd (h.ext hE)
 rw [hu] at hup
 have HUP := Lib.hid hup
 have hlt : w.heap.size < (w.alloc (.cells #[.int .u8 0, .int .i64 0, .int .i64 0, .int .i64 0, .int .i64 0, .int .i64 0, .slice none 0 0, .int .u8 0, .int .i64 0, .int .i64 0, .int .i64 0, .int .i64 0, .int .i64 0, .slice none 0 0] 220)).heap.size := by simp
 have hrd0 := fun V (hV : Ext w V) => read_held (h.ext hV) (hL.ext hV) r g 0 hfew
 have hrd1 := fun V (hV : Ext w V) => read_held (h.ext hV) (hL.ext hV) r g 1 hfew
 rw [hx] at hrd0
 rw [hy] at hrd1
 have HR0 := Lib.hid hrd0
 have HR1 := Lib.hid hrd1
 clear hT hE h hL hup hu hfew hrd0 hrd1 hx hy
 go_enter Tryz.func155, Tryz.ntmps155
 go_wp2_with fail
 refine HUP.out.mono ?_
 rintro e w0 ⟨rfl, rfl⟩
 go_wp2_with fail
 refine wp_loop_rounds 3 ?_
 rw [rounds_succ]
 go_wp2_with fail
 refine (HR0.out _ HE.out).mono ?_
 rintro e w1 ⟨A0, N0, rfl, hb0, hge0, hx1⟩
 have hrow := (hx1.block _ hlt).trans HT.out
 have HGE0 : Hid (∀ g o, A0 = some ⟨g, o, none⟩ → 0 < N0 → w.heap.size + 1 ≤ g) := Lib.hid fun g o hA hN => by
  have h1 := hge0 g o hA hN
  simp at h1
  omega
 have HE1 := Lib.hid (HE.out.trans hx1)
 have HROW := Lib.hid hrow
 obtain ⟨⟨c0, c1, c2, c3, c4, c5, c6, _⟩, f0, f1, f2, f3, f4, f5, f6, _⟩ := free14 hrow
 have HB0 := Lib.hid hb0
 have hl1 : w.heap.size < w1.heap.size := (Array.getElem?_eq_some_iff.1 hrow).1
 clear hrow hb0 hge0 hx1
 go_wp2_with fail
 have hrow := lo_row HROW.out (.int .u8 (stM x r g 0 : Nat)) (.int .i64 (mfl x r g 0 0 : Nat)) (.int .i64 (mfl x r g 0 1 : Nat)) (.int .i64 (mfl x r g 0 2 : Nat)) (.int .i64 (mfl x r g 0 3 : Nat)) (.int .i64 (mfl x r g 0 4 : Nat)) (.slice A0 N0 N0)
 have hm := seven_mod w1 w.heap.size (.int .u8 (stM x r g 0 : Nat)) (.int .i64 (mfl x r g 0 0 : Nat)) (.int .i64 (mfl x r g 0 1 : Nat)) (.int .i64 (mfl x r g 0 2 : Nat)) (.int .i64 (mfl x r g 0 3 : Nat)) (.int .i64 (mfl x r g 0 4 : Nat)) (.slice A0 N0 N0)
 clear c0 c1 c2 c3 c4 c5 c6 f0 f1 f2 f3 f4 f5 f6 hl1
 generalize (((((((w1.setCell ⟨w.heap.size, 0, none⟩ (.int .u8 (stM x r g 0 : Nat))).setCell ⟨w.heap.size, 1, none⟩ (.int .i64 (mfl x r g 0 0 : Nat))).setCell ⟨w.heap.size, 2, none⟩ (.int .i64 (mfl x r g 0 1 : Nat))).setCell ⟨w.heap.size, 3, none⟩ (.int .i64 (mfl x r g 0 2 : Nat))).setCell ⟨w.heap.size, 4, none⟩ (.int .i64 (mfl x r g 0 3 : Nat))).setCell ⟨w.heap.size, 5, none⟩ (.int .i64 (mfl x r g 0 4 : Nat))).setCell ⟨w.heap.size, 6, none⟩ (.slice A0 N0 N0)) = V at hrow hm ⊢
 have HB0 := Lib.hid (HB0.out.mod0 hm (fun g o hA hN e => by have := HGE0.out g o hA hN; omega))
 have HE1 : Hid (Ext w V) := Lib.hid (Below.mod HE1.out hm HE1.out.size (fun i hi => Nat.le_of_eq hi.symm))
 have HROW := Lib.hid hrow
 have hlt : w.heap.size < V.heap.size := (Array.getElem?_eq_some_iff.1 hrow).1
 clear hrow hm
 rw [rounds_succ]
 go_wp2_with fail
 refine (HR1.out _ HE1.out).mono ?_
 rintro e w2 ⟨A1, N1, rfl, hb1, hge1, hx2⟩
 have hrow := (hx2.block _ hlt).trans HROW.out
 have HGE1 : Hid (∀ g o, A1 = some ⟨g, o, none⟩ → 0 < N1 → w.heap.size + 1 ≤ g) := Lib.hid fun g o hA hN => by
  have h1 := hge1 g o hA hN
  omega
 have HE2 := Lib.hid (HE1.out.trans hx2)
 have HROW := Lib.hid hrow
 have HB0 := Lib.hid (HB0.out.ext hx2)
 have HB1 := Lib.hid hb1
 obtain ⟨⟨_, _, _, _, _, _, _, c0, c1, c2, c3, c4, c5, c6⟩, _, _, _, _, _, _, _, f0, f1, f2, f3, f4, f5, f6⟩ := free14 hrow
 have hl2 : w.heap.size < w2.heap.size := (Array.getElem?_eq_some_iff.1 hrow).1
 clear hrow hb1 hge1 hx2
 go_wp2_with fail
 have hrow := hi_row HROW.out (.int .u8 (stM y r g 1 : Nat)) (.int .i64 (mfl y r g 1 0 : Nat)) (.int .i64 (mfl y r g 1 1 : Nat)) (.int .i64 (mfl y r g 1 2 : Nat)) (.int .i64 (mfl y r g 1 3 : Nat)) (.int .i64 (mfl y r g 1 4 : Nat)) (.slice A1 N1 N1)
 have hm := hi_mod w2 w.heap.size (.int .u8 (stM y r g 1 : Nat)) (.int .i64 (mfl y r g 1 0 : Nat)) (.int .i64 (mfl y r g 1 1 : Nat)) (.int .i64 (mfl y r g 1 2 : Nat)) (.int .i64 (mfl y r g 1 3 : Nat)) (.int .i64 (mfl y r g 1 4 : Nat)) (.slice A1 N1 N1)
 clear c0 c1 c2 c3 c4 c5 c6 f0 f1 f2 f3 f4 f5 f6 hl2
 generalize (((((((w2.setCell ⟨w.heap.size, 7, none⟩ (.int .u8 (stM y r g 1 : Nat))).setCell ⟨w.heap.size, 8, none⟩ (.int .i64 (mfl y r g 1 0 : Nat))).setCell ⟨w.heap.size, 9, none⟩ (.int .i64 (mfl y r g 1 1 : Nat))).setCell ⟨w.heap.size, 10, none⟩ (.int .i64 (mfl y r g 1 2 : Nat))).setCell ⟨w.heap.size, 11, none⟩ (.int .i64 (mfl y r g 1 3 : Nat))).setCell ⟨w.heap.size, 12, none⟩ (.int .i64 (mfl y r g 1 4 : Nat))).setCell ⟨w.heap.size, 13, none⟩ (.slice A1 N1 N1)) = U at hrow hm ⊢
 have HB0 := Lib.hid (HB0.out.mod0 hm (fun g o hA hN e => by have := HGE0.out g o hA hN; omega))
 have HB1 := Lib.hid (HB1.out.mod0 hm (fun g o hA hN e => by have := HGE1.out g o hA hN; omega))
 have HE2 : Hid (Ext w U) := Lib.hid (Below.mod HE2.out hm HE2.out.size (fun i hi => Nat.le_of_eq hi.symm))
 have HROW := Lib.hid hrow
 have hlt : w.heap.size < U.heap.size := (Array.getElem?_eq_some_iff.1 hrow).1
 obtain ⟨⟨c0, c1, c2, c3, c4, c5, c6, c7, c8, c9, c10, c11, c12, c13⟩, _⟩ := free14 hrow
 clear hrow hm
 rw [rounds_succ]
 go_wp2_with fail
 refine (which_at r g x y A0 N0 A1 N1 _).mono ?_
 rw [HAT.out]
 rintro e w3 ⟨rfl, hx3⟩
 have hrow := (hx3.block _ hlt).trans HROW.out
 have HE3 := Lib.hid (HE2.out.trans hx3)
 have HROW := Lib.hid hrow
 have HB0 := Lib.hid (HB0.out.ext hx3)
 have HB1 := Lib.hid (HB1.out.ext hx3)
 have hlt : w.heap.size < w3.heap.size := (Array.getElem?_eq_some_iff.1 hrow).1
 clear c0 c1 c2 c3 c4 c5 c6 c7 c8 c9 c10 c11 c12 c13
 obtain ⟨⟨c0, c1, c2, c3, c4, c5, c6, c7, c8, c9, c10, c11, c12, c13⟩, f0, f1, f2, f3, f4, f5, f6, f7, f8, f9, f10, f11, f12, f13⟩ := free14 hrow
 clear hrow hx3
 go_wp2_with fail
 have hrow := all_row HROW.out (.int .u8 (stM x r g 0 : Nat)) (.int .i64 (mfl x r g 0 0 : Nat)) (.int .i64 (mfl x r g 0 1 : Nat)) (.int .i64 (mfl x r g 0 2 : Nat)) (.int .i64 (mfl x r g 0 3 : Nat)) (.int .i64 (mfl x r g 0 4 : Nat)) (.slice A0 N0 N0) (.int .u8 (stM y r g 1 : Nat)) (.int .i64 (mfl y r g 1 0 : Nat)) (.int .i64 (mfl y r g 1 1 : Nat)) (.int .i64 (mfl y r g 1 2 : Nat)) (.int .i64 (mfl y r g 1 3 : Nat)) (.int .i64 (mfl y r g 1 4 : Nat)) (.slice A1 N1 N1)
 have hm := all_mod w3 w.heap.size (.int .u8 (stM x r g 0 : Nat)) (.int .i64 (mfl x r g 0 0 : Nat)) (.int .i64 (mfl x r g 0 1 : Nat)) (.int .i64 (mfl x r g 0 2 : Nat)) (.int .i64 (mfl x r g 0 3 : Nat)) (.int .i64 (mfl x r g 0 4 : Nat)) (.slice A0 N0 N0) (.int .u8 (stM y r g 1 : Nat)) (.int .i64 (mfl y r g 1 0 : Nat)) (.int .i64 (mfl y r g 1 1 : Nat)) (.int .i64 (mfl y r g 1 2 : Nat)) (.int .i64 (mfl y r g 1 3 : Nat)) (.int .i64 (mfl y r g 1 4 : Nat)) (.slice A1 N1 N1)
 clear c0 c1 c2 c3 c4 c5 c6 c7 c8 c9 c10 c11 c12 c13 f0 f1 f2 f3 f4 f5 f6 f7 f8 f9 f10 f11 f12 f13
 generalize ((((((((((((((w3.setCell ⟨w.heap.size, 0, none⟩ (.int .u8 (stM x r g 0 : Nat))).setCell ⟨w.heap.size, 1, none⟩ (.int .i64 (mfl x r g 0 0 : Nat))).setCell ⟨w.heap.size, 2, none⟩ (.int .i64 (mfl x r g 0 1 : Nat))).setCell ⟨w.heap.size, 3, none⟩ (.int .i64 (mfl x r g 0 2 : Nat))).setCell ⟨w.heap.size, 4, none⟩ (.int .i64 (mfl x r g 0 3 : Nat))).setCell ⟨w.heap.size, 5, none⟩ (.int .i64 (mfl x r g 0 4 : Nat))).setCell ⟨w.heap.size, 6, none⟩ (.slice A0 N0 N0)).setCell ⟨w.heap.size, 7, none⟩ (.int .u8 (stM y r g 1 : Nat))).setCell ⟨w.heap.size, 8, none⟩ (.int .i64 (mfl y r g 1 0 : Nat))).setCell ⟨w.heap.size, 9, none⟩ (.int .i64 (mfl y r g 1 1 : Nat))).setCell ⟨w.heap.size, 10, none⟩ (.int .i64 (mfl y r g 1 2 : Nat))).setCell ⟨w.heap.size, 11, none⟩ (.int .i64 (mfl y r g 1 3 : Nat))).setCell ⟨w.heap.size, 12, none⟩ (.int .i64 (mfl y r g 1 4 : Nat))).setCell ⟨w.heap.size, 13, none⟩ (.slice A1 N1 N1)) = Z at hrow hm ⊢
 obtain ⟨⟨c0, c1, c2, c3, c4, c5, c6, c7, c8, c9, c10, c11, c12, c13⟩, _⟩ := free14 hrow
 refine bodyPost_ret (v := .tuple #[.agg #[.int .u8 (stM x r g 0 : Nat), .int .i64 (mfl x r g 0 0 : Nat), .int .i64 (mfl x r g 0 1 : Nat), .int .i64 (mfl x r g 0 2 : Nat), .int .i64 (mfl x r g 0 3 : Nat), .int .i64 (mfl x r g 0 4 : Nat), .slice A0 N0 N0, .int .u8 (stM y r g 1 : Nat), .int .i64 (mfl y r g 1 0 : Nat), .int .i64 (mfl y r g 1 1 : Nat), .int .i64 (mfl y r g 1 2 : Nat), .int .i64 (mfl y r g 1 3 : Nat), .int .i64 (mfl y r g 1 4 : Nat), .slice A1 N1 N1], .int .i64 K, .int .i64 0]) ?_ rfl ?_
 ·simp [results, Tryz.results155, go_sem, c0, c1, c2, c3, c4, c5, c6, c7, c8, c9, c10, c11, c12, c13]
 ·exact ⟨A0, N0, A1, N1, rfl, ⟨HB0.out.mod0 hm (fun g o hA hN e => by have := HGE0.out g o hA hN; omega), fun g o hA hN => by have := HGE0.out g o hA hN; omega⟩, ⟨HB1.out.mod0 hm (fun g o hA hN e => by have := HGE1.out g o hA hN; omega), fun g o hA hN => by have := HGE1.out g o hA hN; omega⟩, Below.mod HE3.out hm HE3.out.size (fun i hi => Nat.le_of_eq hi.symm)⟩
set_option maxHeartbeats 1600000 in
theorem load_no {w : World} {d : Nat} {F : Nat → Prop} {m : DM} (h : PDisk w d F m) (hL : LaidF w) (r g : Int) (hfew : m.waits.length ≤ 1000000) (hu : m.up = true) (x y : List Nat) (hx : m.cb g 0 = x) (hy : m.cb g 1 = y) (HAT : Hid (atC r g x y = -1)) (K : Int) (hK : K ≠ -1) (HBL : Hid (blankC r g x y = K)) :
 Calls Tryz.prog 155 #[.pointer (some ⟨d, 0, none⟩), .int .i64 r, .int .i64 g] w fun e w' => (∃ (s0 a0 b0 c0 d0 e0 s1 a1 b1 c1 d1 e1 : Int) (A0 A1 : Option Addr) (n0 m0 n1 m1 : Nat), e = .returned (.tuple #[.agg #[.int .u8 s0, .int .i64 a0, .int .i64 b0, .int .i64 c0, .int .i64 d0, .int .i64 e0, .slice A0 n0 m0, .int .u8 s1, .int .i64 a1, .int .i64 b1, .int .i64 c1, .int .i64 d1, .int .i64 e1, .slice A1 n1 m1], .int .i64 (-1), .int .i64 0])) ∧ Ext w w' := by
 have hk1 : (K == -1) = false := by simpa using hK
 clear hK
 have hT := heap_alloc_new w (.cells #[.int .u8 0, .int .i64 0, .int .i64 0, .int .i64 0, .int .i64 0, .int .i64 0, .slice none 0 0, .int .u8 0, .int .i64 0, .int .i64 0, .int .i64 0, .int .i64 0, .int .i64 0, .slice none 0 0] 220)
 have hE := (Ext.refl w).alloc (.cells #[.int .u8 0, .int .i64 0, .int .i64 0, .int .i64 0, .int .i64 0, .int .i64 0, .slice none 0 0, .int .u8 0, .int .i64 0, .int .i64 0, .int .i64 0, .int .i64 0, .int .i64 0, .slice none 0 0] 220)
 have HT := Lib.hid hT
 have HE := Lib.hid hE
 have hup := up_pd (h.ext hE)
 rw [hu] at hup
 have HUP := Lib.hid hup
 have hlt : w.heap.size < (w.alloc (.cells #[.int .u8 0, .int .i64 0, .int .i64 0, .int .i64 0, .int .i64 0, .int .i64 0, .slice none 0 0, .int .u8 0, .int .i64 0, .int .i64 0, .int .i64 0, .int .i64 0, .int .i64 0, .slice none 0 0] 220)).heap.size := by simp
 have hrd0 := fun V (hV : Ext w V) => read_held (h.ext hV) (hL.ext hV) r g 0 hfew
 have hrd1 := fun V (hV : Ext w V) => read_held (h.ext hV) (hL.ext hV) r g 1 hfew
 rw [hx] at hrd0
 rw [hy] at hrd1
 have HR0 := Lib.hid hrd0
 have HR1 := Lib.hid hrd1
 clear hT hE h hL hup hu hfew hrd0 hrd1 hx hy
 go_enter Tryz.func155, Tryz.ntmps155
 go_wp2_with fail
 refine HUP.out.mono ?_
 rintro e w0 ⟨rfl, rfl⟩
 go_wp2_with fail
 refine wp_loop_rounds 3 ?_
 rw [rounds_succ]
 go_wp2_with fail
 refine (HR0.out _ HE.out).mono ?_
 rintro e w1 ⟨A0, N0, rfl, hb0, hge0, hx1⟩
 have hrow := (hx1.block _ hlt).trans HT.out
 have HGE0 : Hid (∀ g o, A0 = some ⟨g, o, none⟩ → 0 < N0 → w.heap.size + 1 ≤ g) := Lib.hid fun g o hA hN => by
  have h1 := hge0 g o hA hN
  simp at h1
  omega
 have HE1 := Lib.hid (HE.out.trans hx1)
 have HROW := Lib.hid hrow
 obtain ⟨⟨c0, c1, c2, c3, c4, c5, c6, _⟩, f0, f1, f2, f3, f4, f5, f6, _⟩ := free14 hrow
 have HB0 := Lib.hid hb0
 have hl1 : w.heap.size < w1.heap.size := (Array.getElem?_eq_some_iff.1 hrow).1
 clear hrow hb0 hge0 hx1
 go_wp2_with fail
 have hrow := lo_row HROW.out (.int .u8 (stM x r g 0 : Nat)) (.int .i64 (mfl x r g 0 0 : Nat)) (.int .i64 (mfl x r g 0 1 : Nat)) (.int .i64 (mfl x r g 0 2 : Nat)) (.int .i64 (mfl x r g 0 3 : Nat)) (.int .i64 (mfl x r g 0 4 : Nat)) (.slice A0 N0 N0)
 have hm := seven_mod w1 w.heap.size (.int .u8 (stM x r g 0 : Nat)) (.int .i64 (mfl x r g 0 0 : Nat)) (.int .i64 (mfl x r g 0 1 : Nat)) (.int .i64 (mfl x r g 0 2 : Nat)) (.int .i64 (mfl x r g 0 3 : Nat)) (.int .i64 (mfl x r g 0 4 : Nat)) (.slice A0 N0 N0)
 clear c0 c1 c2 c3 c4 c5 c6 f0 f1 f2 f3 f4 f5 f6 hl1
 generalize (((((((w1.setCell ⟨w.heap.size, 0, none⟩ (.int .u8 (stM x r g 0 : Nat))).setCell ⟨w.heap.size, 1, none⟩ (.int .i64 (mfl x r g 0 0 : Nat))).setCell ⟨w.heap.size, 2, none⟩ (.int .i64 (mfl x r g 0 1 : Nat))).setCell ⟨w.heap.size, 3, none⟩ (.int .i64 (mfl x r g 0 2 : Nat))).setCell ⟨w.heap.size, 4, none⟩ (.int .i64 (mfl x r g 0 3 : Nat))).setCell ⟨w.heap.size, 5, none⟩ (.int .i64 (mfl x r g 0 4 : Nat))).setCell ⟨w.heap.size, 6, none⟩ (.slice A0 N0 N0)) = V at hrow hm ⊢
 have HB0 := Lib.hid (HB0.out.mod0 hm (fun g o hA hN e => by have := HGE0.out g o hA hN; omega))
 have HE1 : Hid (Ext w V) := Lib.hid (Below.mod HE1.out hm HE1.out.size (fun i hi => Nat.le_of_eq hi.symm))
 have HROW := Lib.hid hrow
 have hlt : w.heap.size < V.heap.size := (Array.getElem?_eq_some_iff.1 hrow).1
 clear hrow hm
 rw [rounds_succ]
 go_wp2_with fail
 refine (HR1.out _ HE1.out).mono ?_
 rintro e w2 ⟨A1, N1, rfl, hb1, hge1, hx2⟩
 have hrow := (hx2.block _ hlt).trans HROW.out
 have HGE1 : Hid (∀ g o, A1 = some ⟨g, o, none⟩ → 0 < N1 → w.heap.size + 1 ≤ g) := Lib.hid fun g o hA hN => by
  have h1 := hge1 g o hA hN
  omega
 have HE2 := Lib.hid (HE1.out.trans hx2)
 have HROW := Lib.hid hrow
 have HB0 := Lib.hid (HB0.out.ext hx2)
 have HB1 := Lib.hid hb1
 obtain ⟨⟨_, _, _, _, _, _, _, c0, c1, c2, c3, c4, c5, c6⟩, _, _, _, _, _, _, _, f0, f1, f2, f3, f4, f5, f6⟩ := free14 hrow
 have hl2 : w.heap.size < w2.heap.size := (Array.getElem?_eq_some_iff.1 hrow).1
 clear hrow hb1 hge1 hx2
 go_wp2_with fail
 have hrow := hi_row HROW.out (.int .u8 (stM y r g 1 : Nat)) (.int .i64 (mfl y r g 1 0 : Nat)) (.int .i64 (mfl y r g 1 1 : Nat)) (.int .i64 (mfl y r g 1 2 : Nat)) (.int .i64 (mfl y r g 1 3 : Nat)) (.int .i64 (mfl y r g 1 4 : Nat)) (.slice A1 N1 N1)
 have hm := hi_mod w2 w.heap.size (.int .u8 (stM y r g 1 : Nat)) (.int .i64 (mfl y r g 1 0 : Nat)) (.int .i64 (mfl y r g 1 1 : Nat)) (.int .i64 (mfl y r g 1 2 : Nat)) (.int .i64 (mfl y r g 1 3 : Nat)) (.int .i64 (mfl y r g 1 4 : Nat)) (.slice A1 N1 N1)
 clear c0 c1 c2 c3 c4 c5 c6 f0 f1 f2 f3 f4 f5 f6 hl2
 generalize (((((((w2.setCell ⟨w.heap.size, 7, none⟩ (.int .u8 (stM y r g 1 : Nat))).setCell ⟨w.heap.size, 8, none⟩ (.int .i64 (mfl y r g 1 0 : Nat))).setCell ⟨w.heap.size, 9, none⟩ (.int .i64 (mfl y r g 1 1 : Nat))).setCell ⟨w.heap.size, 10, none⟩ (.int .i64 (mfl y r g 1 2 : Nat))).setCell ⟨w.heap.size, 11, none⟩ (.int .i64 (mfl y r g 1 3 : Nat))).setCell ⟨w.heap.size, 12, none⟩ (.int .i64 (mfl y r g 1 4 : Nat))).setCell ⟨w.heap.size, 13, none⟩ (.slice A1 N1 N1)) = U at hrow hm ⊢
 have HB0 := Lib.hid (HB0.out.mod0 hm (fun g o hA hN e => by have := HGE0.out g o hA hN; omega))
 have HB1 := Lib.hid (HB1.out.mod0 hm (fun g o hA hN e => by have := HGE1.out g o hA hN; omega))
 have HE2 : Hid (Ext w U) := Lib.hid (Below.mod HE2.out hm HE2.out.size (fun i hi => Nat.le_of_eq hi.symm))
 have HROW := Lib.hid hrow
 have hlt : w.heap.size < U.heap.size := (Array.getElem?_eq_some_iff.1 hrow).1
 obtain ⟨⟨c0, c1, c2, c3, c4, c5, c6, c7, c8, c9, c10, c11, c12, c13⟩, _⟩ := free14 hrow
 clear hrow hm
 rw [rounds_succ]
 go_wp2_with fail
 refine (which_at r g x y A0 N0 A1 N1 _).mono ?_
 rw [HAT.out]
 rintro e w3 ⟨rfl, hx3⟩
 have hrow := (hx3.block _ hlt).trans HROW.out
 have HE3 := Lib.hid (HE2.out.trans hx3)
 have HROW := Lib.hid hrow
 have HB0 := Lib.hid (HB0.out.ext hx3)
 have HB1 := Lib.hid (HB1.out.ext hx3)
 have hlt : w.heap.size < w3.heap.size := (Array.getElem?_eq_some_iff.1 hrow).1
 clear c0 c1 c2 c3 c4 c5 c6 c7 c8 c9 c10 c11 c12 c13
 obtain ⟨⟨c0, c1, c2, c3, c4, c5, c6, c7, c8, c9, c10, c11, c12, c13⟩, f0, f1, f2, f3, f4, f5, f6, f7, f8, f9, f10, f11, f12, f13⟩ := free14 hrow
 clear hrow hx3
 go_wp2_with fail
 refine (which_bl r g x y A0 N0 A1 N1 _).mono ?_
 rw [HBL.out]
 rintro e w4 ⟨rfl, hx4⟩
 have hrow := (hx4.block _ hlt).trans HROW.out
 have HE3 := Lib.hid (HE3.out.trans hx4)
 have HROW := Lib.hid hrow
 have HB0 := Lib.hid (HB0.out.ext hx4)
 have HB1 := Lib.hid (HB1.out.ext hx4)
 clear hlt
 have hlt : w.heap.size < w4.heap.size := (Array.getElem?_eq_some_iff.1 hrow).1
 clear c0 c1 c2 c3 c4 c5 c6 c7 c8 c9 c10 c11 c12 c13 f0 f1 f2 f3 f4 f5 f6 f7 f8 f9 f10 f11 f12 f13
 obtain ⟨⟨c0, c1, c2, c3, c4, c5, c6, c7, c8, c9, c10, c11, c12, c13⟩, f0, f1, f2, f3, f4, f5, f6, f7, f8, f9, f10, f11, f12, f13⟩ := free14 hrow
 clear hrow hx4
 go_wp2_with fail
 have hrow := all_row HROW.out (.int .u8 (stM x r g 0 : Nat)) (.int .i64 (mfl x r g 0 0 : Nat)) (.int .i64 (mfl x r g 0 1 : Nat)) (.int .i64 (mfl x r g 0 2 : Nat)) (.int .i64 (mfl x r g 0 3 : Nat)) (.int .i64 (mfl x r g 0 4 : Nat)) (.slice A0 N0 N0) (.int .u8 (stM y r g 1 : Nat)) (.int .i64 (mfl y r g 1 0 : Nat)) (.int .i64 (mfl y r g 1 1 : Nat)) (.int .i64 (mfl y r g 1 2 : Nat)) (.int .i64 (mfl y r g 1 3 : Nat)) (.int .i64 (mfl y r g 1 4 : Nat)) (.slice A1 N1 N1)
 have hm := all_mod w4 w.heap.size (.int .u8 (stM x r g 0 : Nat)) (.int .i64 (mfl x r g 0 0 : Nat)) (.int .i64 (mfl x r g 0 1 : Nat)) (.int .i64 (mfl x r g 0 2 : Nat)) (.int .i64 (mfl x r g 0 3 : Nat)) (.int .i64 (mfl x r g 0 4 : Nat)) (.slice A0 N0 N0) (.int .u8 (stM y r g 1 : Nat)) (.int .i64 (mfl y r g 1 0 : Nat)) (.int .i64 (mfl y r g 1 1 : Nat)) (.int .i64 (mfl y r g 1 2 : Nat)) (.int .i64 (mfl y r g 1 3 : Nat)) (.int .i64 (mfl y r g 1 4 : Nat)) (.slice A1 N1 N1)
 clear c0 c1 c2 c3 c4 c5 c6 c7 c8 c9 c10 c11 c12 c13 f0 f1 f2 f3 f4 f5 f6 f7 f8 f9 f10 f11 f12 f13
 generalize ((((((((((((((w4.setCell ⟨w.heap.size, 0, none⟩ (.int .u8 (stM x r g 0 : Nat))).setCell ⟨w.heap.size, 1, none⟩ (.int .i64 (mfl x r g 0 0 : Nat))).setCell ⟨w.heap.size, 2, none⟩ (.int .i64 (mfl x r g 0 1 : Nat))).setCell ⟨w.heap.size, 3, none⟩ (.int .i64 (mfl x r g 0 2 : Nat))).setCell ⟨w.heap.size, 4, none⟩ (.int .i64 (mfl x r g 0 3 : Nat))).setCell ⟨w.heap.size, 5, none⟩ (.int .i64 (mfl x r g 0 4 : Nat))).setCell ⟨w.heap.size, 6, none⟩ (.slice A0 N0 N0)).setCell ⟨w.heap.size, 7, none⟩ (.int .u8 (stM y r g 1 : Nat))).setCell ⟨w.heap.size, 8, none⟩ (.int .i64 (mfl y r g 1 0 : Nat))).setCell ⟨w.heap.size, 9, none⟩ (.int .i64 (mfl y r g 1 1 : Nat))).setCell ⟨w.heap.size, 10, none⟩ (.int .i64 (mfl y r g 1 2 : Nat))).setCell ⟨w.heap.size, 11, none⟩ (.int .i64 (mfl y r g 1 3 : Nat))).setCell ⟨w.heap.size, 12, none⟩ (.int .i64 (mfl y r g 1 4 : Nat))).setCell ⟨w.heap.size, 13, none⟩ (.slice A1 N1 N1)) = Z at hrow hm ⊢
 obtain ⟨⟨c0, c1, c2, c3, c4, c5, c6, c7, c8, c9, c10, c11, c12, c13⟩, _⟩ := free14 hrow
 refine bodyPost_ret (v := .tuple #[.agg #[.int .u8 (stM x r g 0 : Nat), .int .i64 (mfl x r g 0 0 : Nat), .int .i64 (mfl x r g 0 1 : Nat), .int .i64 (mfl x r g 0 2 : Nat), .int .i64 (mfl x r g 0 3 : Nat), .int .i64 (mfl x r g 0 4 : Nat), .slice A0 N0 N0, .int .u8 (stM y r g 1 : Nat), .int .i64 (mfl y r g 1 0 : Nat), .int .i64 (mfl y r g 1 1 : Nat), .int .i64 (mfl y r g 1 2 : Nat), .int .i64 (mfl y r g 1 3 : Nat), .int .i64 (mfl y r g 1 4 : Nat), .slice A1 N1 N1], .int .i64 (-1), .int .i64 0]) ?_ rfl ?_
 ·simp [results, Tryz.results155, go_sem, c0, c1, c2, c3, c4, c5, c6, c7, c8, c9, c10, c11, c12, c13]
 ·exact ⟨⟨_, _, _, _, _, _, _, _, _, _, _, _, _, _, _, _, _, _, rfl⟩, Below.mod HE3.out hm HE3.out.size (fun i hi => Nat.le_of_eq hi.symm)⟩
set_option maxHeartbeats 1600000 in
theorem load_bad {w : World} {d : Nat} {F : Nat → Prop} {m : DM} (h : PDisk w d F m) (hL : LaidF w) (r g : Int) (hfew : m.waits.length ≤ 1000000) (hu : m.up = true) (x y : List Nat) (hx : m.cb g 0 = x) (hy : m.cb g 1 = y) (HAT : Hid (atC r g x y = -1)) (HBL : Hid (blankC r g x y = -1)) :
 Calls Tryz.prog 155 #[.pointer (some ⟨d, 0, none⟩), .int .i64 r, .int .i64 g] w fun e w' => (∃ (s0 a0 b0 c0 d0 e0 s1 a1 b1 c1 d1 e1 : Int) (A0 A1 : Option Addr) (n0 m0 n1 m1 : Nat), e = .returned (.tuple #[.agg #[.int .u8 s0, .int .i64 a0, .int .i64 b0, .int .i64 c0, .int .i64 d0, .int .i64 e0, .slice A0 n0 m0, .int .u8 s1, .int .i64 a1, .int .i64 b1, .int .i64 c1, .int .i64 d1, .int .i64 e1, .slice A1 n1 m1], .int .i64 (-1), .int .i64 70])) ∧ Ext w w' := by
 have hT := heap_alloc_new w (.cells #[.int .u8 0, .int .i64 0, .int .i64 0, .int .i64 0, .int .i64 0, .int .i64 0, .slice none 0 0, .int .u8 0, .int .i64 0, .int .i64 0, .int .i64 0, .int .i64 0, .int .i64 0, .slice none 0 0] 220)
 have hE := (Ext.refl w).alloc (.cells #[.int .u8 0, .int .i64 0, .int .i64 0, .int .i64 0, .int .i64 0, .int .i64 0, .slice none 0 0, .int .u8 0, .int .i64 0, .int .i64 0, .int .i64 0, .int .i64 0, .int .i64 0, .slice none 0 0] 220)
 have HT := Lib.hid hT
 have HE := Lib.hid hE
 have hup := up_pd (h.ext hE)
 rw [hu] at hup
 have HUP := Lib.hid hup
 have hlt : w.heap.size < (w.alloc (.cells #[.int .u8 0, .int .i64 0, .int .i64 0, .int .i64 0, .int .i64 0, .int .i64 0, .slice none 0 0, .int .u8 0, .int .i64 0, .int .i64 0, .int .i64 0, .int .i64 0, .int .i64 0, .slice none 0 0] 220)).heap.size := by simp
 have hrd0 := fun V (hV : Ext w V) => read_held (h.ext hV) (hL.ext hV) r g 0 hfew
 have hrd1 := fun V (hV : Ext w V) => read_held (h.ext hV) (hL.ext hV) r g 1 hfew
 rw [hx] at hrd0
 rw [hy] at hrd1
 have HR0 := Lib.hid hrd0
 have HR1 := Lib.hid hrd1
 clear hT hE h hL hup hu hfew hrd0 hrd1 hx hy
 go_enter Tryz.func155, Tryz.ntmps155
 go_wp2_with fail
 refine HUP.out.mono ?_
 rintro e w0 ⟨rfl, rfl⟩
 go_wp2_with fail
 refine wp_loop_rounds 3 ?_
 rw [rounds_succ]
 go_wp2_with fail
 refine (HR0.out _ HE.out).mono ?_
 rintro e w1 ⟨A0, N0, rfl, hb0, hge0, hx1⟩
 have hrow := (hx1.block _ hlt).trans HT.out
 have HGE0 : Hid (∀ g o, A0 = some ⟨g, o, none⟩ → 0 < N0 → w.heap.size + 1 ≤ g) := Lib.hid fun g o hA hN => by
  have h1 := hge0 g o hA hN
  simp at h1
  omega
 have HE1 := Lib.hid (HE.out.trans hx1)
 have HROW := Lib.hid hrow
 obtain ⟨⟨c0, c1, c2, c3, c4, c5, c6, _⟩, f0, f1, f2, f3, f4, f5, f6, _⟩ := free14 hrow
 have HB0 := Lib.hid hb0
 have hl1 : w.heap.size < w1.heap.size := (Array.getElem?_eq_some_iff.1 hrow).1
 clear hrow hb0 hge0 hx1
 go_wp2_with fail
 have hrow := lo_row HROW.out (.int .u8 (stM x r g 0 : Nat)) (.int .i64 (mfl x r g 0 0 : Nat)) (.int .i64 (mfl x r g 0 1 : Nat)) (.int .i64 (mfl x r g 0 2 : Nat)) (.int .i64 (mfl x r g 0 3 : Nat)) (.int .i64 (mfl x r g 0 4 : Nat)) (.slice A0 N0 N0)
 have hm := seven_mod w1 w.heap.size (.int .u8 (stM x r g 0 : Nat)) (.int .i64 (mfl x r g 0 0 : Nat)) (.int .i64 (mfl x r g 0 1 : Nat)) (.int .i64 (mfl x r g 0 2 : Nat)) (.int .i64 (mfl x r g 0 3 : Nat)) (.int .i64 (mfl x r g 0 4 : Nat)) (.slice A0 N0 N0)
 clear c0 c1 c2 c3 c4 c5 c6 f0 f1 f2 f3 f4 f5 f6 hl1
 generalize (((((((w1.setCell ⟨w.heap.size, 0, none⟩ (.int .u8 (stM x r g 0 : Nat))).setCell ⟨w.heap.size, 1, none⟩ (.int .i64 (mfl x r g 0 0 : Nat))).setCell ⟨w.heap.size, 2, none⟩ (.int .i64 (mfl x r g 0 1 : Nat))).setCell ⟨w.heap.size, 3, none⟩ (.int .i64 (mfl x r g 0 2 : Nat))).setCell ⟨w.heap.size, 4, none⟩ (.int .i64 (mfl x r g 0 3 : Nat))).setCell ⟨w.heap.size, 5, none⟩ (.int .i64 (mfl x r g 0 4 : Nat))).setCell ⟨w.heap.size, 6, none⟩ (.slice A0 N0 N0)) = V at hrow hm ⊢
 have HB0 := Lib.hid (HB0.out.mod0 hm (fun g o hA hN e => by have := HGE0.out g o hA hN; omega))
 have HE1 : Hid (Ext w V) := Lib.hid (Below.mod HE1.out hm HE1.out.size (fun i hi => Nat.le_of_eq hi.symm))
 have HROW := Lib.hid hrow
 have hlt : w.heap.size < V.heap.size := (Array.getElem?_eq_some_iff.1 hrow).1
 clear hrow hm
 rw [rounds_succ]
 go_wp2_with fail
 refine (HR1.out _ HE1.out).mono ?_
 rintro e w2 ⟨A1, N1, rfl, hb1, hge1, hx2⟩
 have hrow := (hx2.block _ hlt).trans HROW.out
 have HGE1 : Hid (∀ g o, A1 = some ⟨g, o, none⟩ → 0 < N1 → w.heap.size + 1 ≤ g) := Lib.hid fun g o hA hN => by
  have h1 := hge1 g o hA hN
  omega
 have HE2 := Lib.hid (HE1.out.trans hx2)
 have HROW := Lib.hid hrow
 have HB0 := Lib.hid (HB0.out.ext hx2)
 have HB1 := Lib.hid hb1
 obtain ⟨⟨_, _, _, _, _, _, _, c0, c1, c2, c3, c4, c5, c6⟩, _, _, _, _, _, _, _, f0, f1, f2, f3, f4, f5, f6⟩ := free14 hrow
 have hl2 : w.heap.size < w2.heap.size := (Array.getElem?_eq_some_iff.1 hrow).1
 clear hrow hb1 hge1 hx2
 go_wp2_with fail
 have hrow := hi_row HROW.out (.int .u8 (stM y r g 1 : Nat)) (.int .i64 (mfl y r g 1 0 : Nat)) (.int .i64 (mfl y r g 1 1 : Nat)) (.int .i64 (mfl y r g 1 2 : Nat)) (.int .i64 (mfl y r g 1 3 : Nat)) (.int .i64 (mfl y r g 1 4 : Nat)) (.slice A1 N1 N1)
 have hm := hi_mod w2 w.heap.size (.int .u8 (stM y r g 1 : Nat)) (.int .i64 (mfl y r g 1 0 : Nat)) (.int .i64 (mfl y r g 1 1 : Nat)) (.int .i64 (mfl y r g 1 2 : Nat)) (.int .i64 (mfl y r g 1 3 : Nat)) (.int .i64 (mfl y r g 1 4 : Nat)) (.slice A1 N1 N1)
 clear c0 c1 c2 c3 c4 c5 c6 f0 f1 f2 f3 f4 f5 f6 hl2
 generalize (((((((w2.setCell ⟨w.heap.size, 7, none⟩ (.int .u8 (stM y r g 1 : Nat))).setCell ⟨w.heap.size, 8, none⟩ (.int .i64 (mfl y r g 1 0 : Nat))).setCell ⟨w.heap.size, 9, none⟩ (.int .i64 (mfl y r g 1 1 : Nat))).setCell ⟨w.heap.size, 10, none⟩ (.int .i64 (mfl y r g 1 2 : Nat))).setCell ⟨w.heap.size, 11, none⟩ (.int .i64 (mfl y r g 1 3 : Nat))).setCell ⟨w.heap.size, 12, none⟩ (.int .i64 (mfl y r g 1 4 : Nat))).setCell ⟨w.heap.size, 13, none⟩ (.slice A1 N1 N1)) = U at hrow hm ⊢
 have HB0 := Lib.hid (HB0.out.mod0 hm (fun g o hA hN e => by have := HGE0.out g o hA hN; omega))
 have HB1 := Lib.hid (HB1.out.mod0 hm (fun g o hA hN e => by have := HGE1.out g o hA hN; omega))
 have HE2 : Hid (Ext w U) := Lib.hid (Below.mod HE2.out hm HE2.out.size (fun i hi => Nat.le_of_eq hi.symm))
 have HROW := Lib.hid hrow
 have hlt : w.heap.size < U.heap.size := (Array.getElem?_eq_some_iff.1 hrow).1
 obtain ⟨⟨c0, c1, c2, c3, c4, c5, c6, c7, c8, c9, c10, c11, c12, c13⟩, _⟩ := free14 hrow
 clear hrow hm
 rw [rounds_succ]
 go_wp2_with fail
 refine (which_at r g x y A0 N0 A1 N1 _).mono ?_
 rw [HAT.out]
 rintro e w3 ⟨rfl, hx3⟩
 have hrow := (hx3.block _ hlt).trans HROW.out
 have HE3 := Lib.hid (HE2.out.trans hx3)
 have HROW := Lib.hid hrow
 have HB0 := Lib.hid (HB0.out.ext hx3)
 have HB1 := Lib.hid (HB1.out.ext hx3)
 have hlt : w.heap.size < w3.heap.size := (Array.getElem?_eq_some_iff.1 hrow).1
 clear c0 c1 c2 c3 c4 c5 c6 c7 c8 c9 c10 c11 c12 c13
 obtain ⟨⟨c0, c1, c2, c3, c4, c5, c6, c7, c8, c9, c10, c11, c12, c13⟩, f0, f1, f2, f3, f4, f5, f6, f7, f8, f9, f10, f11, f12, f13⟩ := free14 hrow
 clear hrow hx3
 go_wp2_with fail
 refine (which_bl r g x y A0 N0 A1 N1 _).mono ?_
 rw [HBL.out]
 rintro e w4 ⟨rfl, hx4⟩
 have hrow := (hx4.block _ hlt).trans HROW.out
 have HE3 := Lib.hid (HE3.out.trans hx4)
 have HROW := Lib.hid hrow
 have HB0 := Lib.hid (HB0.out.ext hx4)
 have HB1 := Lib.hid (HB1.out.ext hx4)
 clear hlt
 have hlt : w.heap.size < w4.heap.size := (Array.getElem?_eq_some_iff.1 hrow).1
 clear c0 c1 c2 c3 c4 c5 c6 c7 c8 c9 c10 c11 c12 c13 f0 f1 f2 f3 f4 f5 f6 f7 f8 f9 f10 f11 f12 f13
 obtain ⟨⟨c0, c1, c2, c3, c4, c5, c6, c7, c8, c9, c10, c11, c12, c13⟩, f0, f1, f2, f3, f4, f5, f6, f7, f8, f9, f10, f11, f12, f13⟩ := free14 hrow
 clear hrow hx4
 go_wp2_with fail
 have hrow := all_row HROW.out (.int .u8 0) (.int .i64 0) (.int .i64 0) (.int .i64 0) (.int .i64 0) (.int .i64 0) (.slice none 0 0) (.int .u8 0) (.int .i64 0) (.int .i64 0) (.int .i64 0) (.int .i64 0) (.int .i64 0) (.slice none 0 0)
 have hm := all_mod w4 w.heap.size (.int .u8 0) (.int .i64 0) (.int .i64 0) (.int .i64 0) (.int .i64 0) (.int .i64 0) (.slice none 0 0) (.int .u8 0) (.int .i64 0) (.int .i64 0) (.int .i64 0) (.int .i64 0) (.int .i64 0) (.slice none 0 0)
 clear c0 c1 c2 c3 c4 c5 c6 c7 c8 c9 c10 c11 c12 c13 f0 f1 f2 f3 f4 f5 f6 f7 f8 f9 f10 f11 f12 f13
 generalize ((((((((((((((w4.setCell ⟨w.heap.size, 0, none⟩ (.int .u8 0)).setCell ⟨w.heap.size, 1, none⟩ (.int .i64 0)).setCell ⟨w.heap.size, 2, none⟩ (.int .i64 0)).setCell ⟨w.heap.size, 3, none⟩ (.int .i64 0)).setCell ⟨w.heap.size, 4, none⟩ (.int .i64 0)).setCell ⟨w.heap.size, 5, none⟩ (.int .i64 0)).setCell ⟨w.heap.size, 6, none⟩ (.slice none 0 0)).setCell ⟨w.heap.size, 7, none⟩ (.int .u8 0)).setCell ⟨w.heap.size, 8, none⟩ (.int .i64 0)).setCell ⟨w.heap.size, 9, none⟩ (.int .i64 0)).setCell ⟨w.heap.size, 10, none⟩ (.int .i64 0)).setCell ⟨w.heap.size, 11, none⟩ (.int .i64 0)).setCell ⟨w.heap.size, 12, none⟩ (.int .i64 0)).setCell ⟨w.heap.size, 13, none⟩ (.slice none 0 0)) = Z at hrow hm ⊢
 obtain ⟨⟨c0, c1, c2, c3, c4, c5, c6, c7, c8, c9, c10, c11, c12, c13⟩, _⟩ := free14 hrow
 refine bodyPost_ret (v := .tuple #[.agg #[.int .u8 0, .int .i64 0, .int .i64 0, .int .i64 0, .int .i64 0, .int .i64 0, .slice none 0 0, .int .u8 0, .int .i64 0, .int .i64 0, .int .i64 0, .int .i64 0, .int .i64 0, .slice none 0 0], .int .i64 (-1), .int .i64 70]) ?_ rfl ?_
 ·simp [results, Tryz.results155, go_sem, c0, c1, c2, c3, c4, c5, c6, c7, c8, c9, c10, c11, c12, c13]
 ·exact ⟨⟨_, _, _, _, _, _, _, _, _, _, _, _, _, _, _, _, _, _, rfl⟩, Below.mod HE3.out hm HE3.out.size (fun i hi => Nat.le_of_eq hi.symm)⟩
theorem load_down {w : World} {d : Nat} {F : Nat → Prop} {m : DM} (h : PDisk w d F m) (r g : Int) (hu : m.up = false) :
 Calls Tryz.prog 155 #[.pointer (some ⟨d, 0, none⟩), .int .i64 r, .int .i64 g] w fun e w' => (∃ (s0 a0 b0 c0 d0 e0 s1 a1 b1 c1 d1 e1 : Int) (A0 A1 : Option Addr) (n0 m0 n1 m1 : Nat), e = .returned (.tuple #[.agg #[.int .u8 s0, .int .i64 a0, .int .i64 b0, .int .i64 c0, .int .i64 d0, .int .i64 e0, .slice A0 n0 m0, .int .u8 s1, .int .i64 a1, .int .i64 b1, .int .i64 c1, .int .i64 d1, .int .i64 e1, .slice A1 n1 m1], .int .i64 (-1), .int .i64 5])) ∧ Ext w w' := by
 have hT := heap_alloc_new w (.cells #[.int .u8 0, .int .i64 0, .int .i64 0, .int .i64 0, .int .i64 0, .int .i64 0, .slice none 0 0, .int .u8 0, .int .i64 0, .int .i64 0, .int .i64 0, .int .i64 0, .int .i64 0, .slice none 0 0] 220)
 have hE := (Ext.refl w).alloc (.cells #[.int .u8 0, .int .i64 0, .int .i64 0, .int .i64 0, .int .i64 0, .int .i64 0, .slice none 0 0, .int .u8 0, .int .i64 0, .int .i64 0, .int .i64 0, .int .i64 0, .int .i64 0, .slice none 0 0] 220)
 have hup := up_pd (h.ext hE)
 rw [hu] at hup
 have HE := Lib.hid hE
 have HUP := Lib.hid hup
 clear hT hE h hu hup
 go_enter Tryz.func155, Tryz.ntmps155
 go_wp2_with fail
 refine HUP.out.mono ?_
 rintro e w0 ⟨rfl, rfl⟩
 go_wp2_with fail
 refine bodyPost_ret (v := .tuple #[.agg #[.int .u8 0, .int .i64 0, .int .i64 0, .int .i64 0, .int .i64 0, .int .i64 0, .slice none 0 0, .int .u8 0, .int .i64 0, .int .i64 0, .int .i64 0, .int .i64 0, .int .i64 0, .slice none 0 0], .int .i64 (-1), .int .i64 5]) ?_ rfl ?_
 ·simp [results, Tryz.results155, go_sem]
 ·exact ⟨⟨_, _, _, _, _, _, _, _, _, _, _, _, _, _, _, _, _, _, rfl⟩, HE.out⟩
end
section
open Go Go.RowKit
def Step (d : Nat) (F : Nat → Prop) (w : World) (m' : DM) (w' : World) : Prop := PDisk w' d (grow F w w') m' ∧ Mod F w w'
theorem PDisk.more {w : World} {d : Nat} {F G : Nat → Prop} {m : DM} (h : PDisk w d F m) (hG : ∀ k, F k → G k) (hl : ∀ k, G k → k < w.heap.size) : PDisk w d G m := by
 obtain ⟨g, pv, hp, h2, _⟩ := h
 exact ⟨g, pv, hp, fun k hk => hG k (h2 k hk), hl⟩
theorem Step.of_ext {w w' : World} {d : Nat} {F : Nat → Prop} {m : DM} (h : PDisk w d F m) (hx : Ext w w') : Step d F w m w' :=
 ⟨(h.ext hx).more (fun _ hk => .inl hk) (fun k hk => hk.elim (fun h1 => Nat.lt_of_lt_of_le (h.lt k h1) hx.size) (fun h1 => h1.2)), Mod.of_ext hx⟩
theorem Step.trans {w w1 w2 : World} {d : Nat} {F : Nat → Prop} {m1 m2 : DM} (h : Step d F w m1 w1) (k : Step d (grow F w w1) w1 m2 w2) : Step d F w m2 w2 := by
 refine ⟨k.1.more (fun i hi => ?_) (fun i hi => ?_), h.2.trans k.2 fun i hi => hi.imp id fun h1 => h1.1⟩
 ·rcases hi with (hi | hi) | hi
  ·exact .inl hi
  ·exact .inr ⟨hi.1, Nat.lt_of_lt_of_le hi.2 k.2.size⟩
  ·exact .inr ⟨Nat.le_trans h.2.size hi.1, hi.2⟩
 ·rcases hi with hi | hi
  ·exact k.1.lt i (.inl (.inl hi))
  ·exact hi.2
theorem Step.pre {w w1 w2 : World} {d : Nat} {F : Nat → Prop} {m : DM} (hx : Ext w w1) (h : Step d F w1 m w2) : Step d F w m w2 :=
 ⟨h.1.more (fun _ hi => hi.imp id fun h1 => ⟨Nat.le_trans hx.size h1.1, h1.2⟩) (fun i hi => hi.elim (fun h1 => h.1.lt i (.inl h1)) (fun h1 => h1.2)), (Mod.of_ext hx).trans h.2 fun _ hi => .inl hi⟩
theorem Outc.step {d : Nat} {F : Nat → Prop} {w : World} {E : Int} {m' : DM} {e : Ending} {w' : World} (h : Outc d F w E m' e w') : e = .returned (.int .i64 E) ∧ Step d F w m' w' := ⟨h.1, h.2.1, h.2.2⟩
end
end Go.Proofs.YtmpaocpgoihliaaGreatDoor
