/-
  The contract of Open.
  The contract of the log statements' Great at one act that holds an entry and nothing else; a log that nobody made tells nothing.
  A number brought below a bound, by way of 64 bits without a sign.
-/
import Derived.Test.YtmacebglfniegaaGreatDoorQ01
import Derived.Test.YtmacebglfniegaaGreatDoorQ11
import Derived.Test.YtmacebglfniegaaGreatDoorQ12
import Derived.Test.YtmacebglfniegaaGreatDoorQ15
namespace Go.Proofs.YtmacebglfniegaaGreatDoor
open Go Go.RowKit

set_option maxRecDepth 100000 in
set_option maxHeartbeats 800000 in
theorem wopen_0 {w : World} (p : Option Addr) (z r c s : Int) (hs : ∀ V, Ext w V → Calls Tryz.prog 39 #[.pointer p] V fun e w' => e = .returned (.int .i64 z) ∧ V = w') (hz : z = 0) :
    Calls Tryz.prog 11 #[.pointer p, .int .i64 r, .int .i64 c, .int .i64 s] w fun e w' => e = .returned (.tuple #[.pointer none, .int .i64 1]) ∧ Ext w w' := by
  have HS := Lib.hid hs
  clear hs
  subst hz
  go_enter Tryz.func11, Tryz.ntmps11
  go_wp2_with fail
  refine (HS.out _ (Ext.refl w)).mono ?_
  rintro e w1 ⟨rfl, rfl⟩
  go_wp2_with fail
  go_ret2
  exact ⟨rfl, Ext.refl w⟩
set_option maxRecDepth 100000 in
set_option maxHeartbeats 800000 in
theorem wopen_1 {w : World} (p : Option Addr) (z r c s : Int) (hs : ∀ V, Ext w V → Calls Tryz.prog 39 #[.pointer p] V fun e w' => e = .returned (.int .i64 z) ∧ V = w') (hL : LaidF w) (hz : ¬ z = 0) (h6 : z < 156) :
    Calls Tryz.prog 11 #[.pointer p, .int .i64 r, .int .i64 c, .int .i64 s] w fun e w' => e = .returned (.tuple #[.pointer none, .int .i64 2]) ∧ Ext w w' := by
  have HS := Lib.hid hs
  have HL := Lib.hid hL
  clear hs hL
  go_enter Tryz.func11, Tryz.ntmps11
  go_wp2_with fail
  refine (HS.out _ (Ext.refl w)).mono ?_
  rintro e w1 ⟨rfl, rfl⟩
  go_wp2_with fail
  refine (HS.out _ (Ext.refl w)).mono ?_
  rintro e w1 ⟨rfl, rfl⟩
  go_wp2_with fail
  refine (all_any _ HL.out.a.t).mono ?_
  rintro e w1 ⟨rfl, hx⟩
  have HX := Lib.hid hx
  clear hx
  go_wp2_with fail
  go_ret2
  exact ⟨rfl, HX.out⟩
set_option maxRecDepth 100000 in
set_option maxHeartbeats 800000 in
theorem wopen_2 {w : World} (p : Option Addr) (z r c s : Int) (hs : ∀ V, Ext w V → Calls Tryz.prog 39 #[.pointer p] V fun e w' => e = .returned (.int .i64 z) ∧ V = w') (hL : LaidF w)  (h6 : ¬ z < 156) (hi0 : inI 0 r 6 = false) :
    Calls Tryz.prog 11 #[.pointer p, .int .i64 r, .int .i64 c, .int .i64 s] w fun e w' => e = .returned (.tuple #[.pointer none, .int .i64 2]) ∧ Ext w w' := by
  have HS := Lib.hid hs
  have HL := Lib.hid hL
  have HI0 : Hid (∀ V, Calls Tryz.prog 41 #[.int .i64 0, .int .i64 r, .int .i64 6] V fun e w' => e = .returned (.bool false) ∧ V = w') := Lib.hid fun V => by rw [← hi0]; exact isWithin_of _ _ _ V
  clear hs hL hi0
  go_enter Tryz.func11, Tryz.ntmps11
  go_wp2_with fail
  refine (HS.out _ (Ext.refl w)).mono ?_
  rintro e w1 ⟨rfl, rfl⟩
  go_wp2_with fail
  refine (HS.out _ (Ext.refl w)).mono ?_
  rintro e w1 ⟨rfl, rfl⟩
  go_wp2_with fail
  refine (all_any _ HL.out.a.t).mono ?_
  rintro e w1 ⟨rfl, hx⟩
  have HX := Lib.hid hx
  clear hx
  go_wp2_with fail
  refine (HI0.out _).mono ?_
  rintro e w2 ⟨rfl, rfl⟩
  go_wp2_with fail
  go_ret2
  exact ⟨rfl, HX.out⟩
set_option maxRecDepth 100000 in
set_option maxHeartbeats 800000 in
theorem wopen_3 {w : World} (p : Option Addr) (z r c s : Int) (hs : ∀ V, Ext w V → Calls Tryz.prog 39 #[.pointer p] V fun e w' => e = .returned (.int .i64 z) ∧ V = w') (hL : LaidF w)  (h6 : ¬ z < 156) (hi0 : inI 0 r 6 = true) (hi1 : inI 1 c 1099511627776 = false) :
    Calls Tryz.prog 11 #[.pointer p, .int .i64 r, .int .i64 c, .int .i64 s] w fun e w' => e = .returned (.tuple #[.pointer none, .int .i64 2]) ∧ Ext w w' := by
  have HS := Lib.hid hs
  have HL := Lib.hid hL
  have HI0 : Hid (∀ V, Calls Tryz.prog 41 #[.int .i64 0, .int .i64 r, .int .i64 6] V fun e w' => e = .returned (.bool true) ∧ V = w') := Lib.hid fun V => by rw [← hi0]; exact isWithin_of _ _ _ V
  have HI1 : Hid (∀ V, Calls Tryz.prog 41 #[.int .i64 1, .int .i64 c, .int .i64 1099511627776] V fun e w' => e = .returned (.bool false) ∧ V = w') := Lib.hid fun V => by rw [← hi1]; exact isWithin_of _ _ _ V
  clear hs hL hi0 hi1
  go_enter Tryz.func11, Tryz.ntmps11
  go_wp2_with fail
  refine (HS.out _ (Ext.refl w)).mono ?_
  rintro e w1 ⟨rfl, rfl⟩
  go_wp2_with fail
  refine (HS.out _ (Ext.refl w)).mono ?_
  rintro e w1 ⟨rfl, rfl⟩
  go_wp2_with fail
  refine (all_any _ HL.out.a.t).mono ?_
  rintro e w1 ⟨rfl, hx⟩
  have HX := Lib.hid hx
  clear hx
  go_wp2_with fail
  refine (HI0.out _).mono ?_
  rintro e w2 ⟨rfl, rfl⟩
  go_wp2_with fail
  refine (HI1.out _).mono ?_
  rintro e w2 ⟨rfl, rfl⟩
  go_wp2_with fail
  go_ret2
  exact ⟨rfl, HX.out⟩
set_option maxRecDepth 100000 in
set_option maxHeartbeats 800000 in
theorem wopen_4 {w : World} (p : Option Addr) (z r c s : Int) (hs : ∀ V, Ext w V → Calls Tryz.prog 39 #[.pointer p] V fun e w' => e = .returned (.int .i64 z) ∧ V = w') (hL : LaidF w)  (h6 : ¬ z < 156) (hi0 : inI 0 r 6 = true) (hi1 : inI 1 c 1099511627776 = true) (hi2 : inI 0 s 1099511627752 = false) :
    Calls Tryz.prog 11 #[.pointer p, .int .i64 r, .int .i64 c, .int .i64 s] w fun e w' => e = .returned (.tuple #[.pointer none, .int .i64 2]) ∧ Ext w w' := by
  have HS := Lib.hid hs
  have HL := Lib.hid hL
  have HI0 : Hid (∀ V, Calls Tryz.prog 41 #[.int .i64 0, .int .i64 r, .int .i64 6] V fun e w' => e = .returned (.bool true) ∧ V = w') := Lib.hid fun V => by rw [← hi0]; exact isWithin_of _ _ _ V
  have HI1 : Hid (∀ V, Calls Tryz.prog 41 #[.int .i64 1, .int .i64 c, .int .i64 1099511627776] V fun e w' => e = .returned (.bool true) ∧ V = w') := Lib.hid fun V => by rw [← hi1]; exact isWithin_of _ _ _ V
  have HI2 : Hid (∀ V, Calls Tryz.prog 41 #[.int .i64 0, .int .i64 s, .int .i64 1099511627752] V fun e w' => e = .returned (.bool false) ∧ V = w') := Lib.hid fun V => by rw [← hi2]; exact isWithin_of _ _ _ V
  clear hs hL hi0 hi1 hi2
  go_enter Tryz.func11, Tryz.ntmps11
  go_wp2_with fail
  refine (HS.out _ (Ext.refl w)).mono ?_
  rintro e w1 ⟨rfl, rfl⟩
  go_wp2_with fail
  refine (HS.out _ (Ext.refl w)).mono ?_
  rintro e w1 ⟨rfl, rfl⟩
  go_wp2_with fail
  refine (all_any _ HL.out.a.t).mono ?_
  rintro e w1 ⟨rfl, hx⟩
  have HX := Lib.hid hx
  clear hx
  go_wp2_with fail
  refine (HI0.out _).mono ?_
  rintro e w2 ⟨rfl, rfl⟩
  go_wp2_with fail
  refine (HI1.out _).mono ?_
  rintro e w2 ⟨rfl, rfl⟩
  go_wp2_with fail
  refine (HI2.out _).mono ?_
  rintro e w2 ⟨rfl, rfl⟩
  go_wp2_with fail
  go_ret2
  exact ⟨rfl, HX.out⟩
set_option maxRecDepth 100000 in
set_option maxHeartbeats 800000 in
theorem wopen_5 {w : World} (p : Option Addr) (z r c s : Int) (hs : ∀ V, Ext w V → Calls Tryz.prog 39 #[.pointer p] V fun e w' => e = .returned (.int .i64 z) ∧ V = w') (hL : LaidF w)  (h6 : ¬ z < 156) (hi0 : inI 0 r 6 = true) (hi1 : inI 1 c 1099511627776 = true) (hi2 : inI 0 s 1099511627752 = true) (hu : ∀ V, Ext w V → Calls Tryz.prog 42 #[.pointer p] V fun e w' => e = .returned (.bool false) ∧ V = w') :
    Calls Tryz.prog 11 #[.pointer p, .int .i64 r, .int .i64 c, .int .i64 s] w fun e w' => e = .returned (.tuple #[.pointer none, .int .i64 5]) ∧ Ext w w' := by
  have HS := Lib.hid hs
  have HL := Lib.hid hL
  have HI0 : Hid (∀ V, Calls Tryz.prog 41 #[.int .i64 0, .int .i64 r, .int .i64 6] V fun e w' => e = .returned (.bool true) ∧ V = w') := Lib.hid fun V => by rw [← hi0]; exact isWithin_of _ _ _ V
  have HI1 : Hid (∀ V, Calls Tryz.prog 41 #[.int .i64 1, .int .i64 c, .int .i64 1099511627776] V fun e w' => e = .returned (.bool true) ∧ V = w') := Lib.hid fun V => by rw [← hi1]; exact isWithin_of _ _ _ V
  have HI2 : Hid (∀ V, Calls Tryz.prog 41 #[.int .i64 0, .int .i64 s, .int .i64 1099511627752] V fun e w' => e = .returned (.bool true) ∧ V = w') := Lib.hid fun V => by rw [← hi2]; exact isWithin_of _ _ _ V
  have HU := Lib.hid hu
  clear hs hL hi0 hi1 hi2 hu
  go_enter Tryz.func11, Tryz.ntmps11
  go_wp2_with fail
  refine (HS.out _ (Ext.refl w)).mono ?_
  rintro e w1 ⟨rfl, rfl⟩
  go_wp2_with fail
  refine (HS.out _ (Ext.refl w)).mono ?_
  rintro e w1 ⟨rfl, rfl⟩
  go_wp2_with fail
  refine (all_any _ HL.out.a.t).mono ?_
  rintro e w1 ⟨rfl, hx⟩
  have HX := Lib.hid hx
  clear hx
  go_wp2_with fail
  refine (HI0.out _).mono ?_
  rintro e w2 ⟨rfl, rfl⟩
  go_wp2_with fail
  refine (HI1.out _).mono ?_
  rintro e w2 ⟨rfl, rfl⟩
  go_wp2_with fail
  refine (HI2.out _).mono ?_
  rintro e w2 ⟨rfl, rfl⟩
  go_wp2_with fail
  refine (HU.out _ HX.out).mono ?_
  rintro e w2 ⟨rfl, rfl⟩
  go_wp2_with fail
  go_ret2
  exact ⟨rfl, HX.out⟩
/-- Open's first error. -/
def openE (m : DM) (r c s : Int) : Int := if m.size < 156 then 2 else if inI 0 r 6 = false then 2 else if inI 1 c 1099511627776 = false then 2 else if inI 0 s 1099511627752 = false then 2 else if m.up = false then 5 else 0
section
variable {w : World} {d : Nat} {F : Nat → Prop} {m : DM}
theorem wopen_no (h : PDisk w d F m) (hL : LaidF w) (r c s : Int) (hE : openE m r c s ≠ 0) :
    Calls Tryz.prog 11 #[.pointer (some ⟨d, 0, none⟩), .int .i64 r, .int .i64 c, .int .i64 s] w fun e w' => e = .returned (.tuple #[.pointer none, .int .i64 (openE m r c s)]) ∧ Ext w w' := by
  have hs : ∀ V, Ext w V → Calls Tryz.prog 39 #[.pointer (some ⟨d, 0, none⟩)] V fun e w' => e = .returned (.int .i64 (m.size : Nat)) ∧ V = w' := fun V hV => size_pd (h.ext hV)
  have hz : ¬ ((m.size : Nat) : Int) = 0 := by
    obtain ⟨g, pv, hp, _, _⟩ := h
    have := hp.n1
    omega
  have hu : ∀ b, m.up = b → ∀ V, Ext w V → Calls Tryz.prog 42 #[.pointer (some ⟨d, 0, none⟩)] V fun e w' => e = .returned (.bool b) ∧ V = w' := fun b hb V hV => by rw [← hb]; exact up_pd (h.ext hV)
  unfold openE at hE ⊢
  by_cases h6 : m.size < 156
  · rw [if_pos h6]
    exact wopen_1 _ _ r c s hs hL hz (by omega)
  rw [if_neg h6] at hE ⊢
  have h6' : ¬ ((m.size : Nat) : Int) < 156 := by omega
  cases h0 : inI 0 r 6 with
  | false => exact wopen_2 _ _ r c s hs hL h6' h0
  | true =>
    cases h1 : inI 1 c 1099511627776 with
    | false => exact wopen_3 _ _ r c s hs hL h6' h0 h1
    | true =>
      cases h2 : inI 0 s 1099511627752 with
      | false => exact wopen_4 _ _ r c s hs hL h6' h0 h1 h2
      | true =>
        cases h3 : m.up with
        | false => exact wopen_5 _ _ r c s hs hL h6' h0 h1 h2 (hu _ h3)
        | true => rw [h0, h1, h2, h3] at hE; exact absurd rfl hE
end
end Go.Proofs.YtmacebglfniegaaGreatDoor

namespace Go.Proofs.YtmacebglfniegaaGreatDoor
open Go Go.RowKit

theorem great6_zero (V : World) (g : Nat) (hg : g = V.heap.size) : Calls Tryz.prog 38 #[.slice (some ⟨g, 0, none⟩) 1 1] (V.alloc (.cells #[.bool false, .int .i64 0, .int .i64 0, .int .i64 0, .int .i64 0, .int .i64 0, .slice none 0 0, .int .u8 0, .int .i64 0, .int .i64 0, .slice none 0 0, .slice none 0 0] 50)) fun r w' => ∃ b : Bool, r = .returned (.bool b) ∧ Ext V w' := by
  subst hg
  have hr := heap_alloc_new V (.cells #[.bool false, .int .i64 0, .int .i64 0, .int .i64 0, .int .i64 0, .int .i64 0, .slice none 0 0, .int .u8 0, .int .i64 0, .int .i64 0, .slice none 0 0, .slice none 0 0] 50)
  have hx := (Ext.refl V).alloc (.cells #[.bool false, .int .i64 0, .int .i64 0, .int .i64 0, .int .i64 0, .int .i64 0, .slice none 0 0, .int .u8 0, .int .i64 0, .int .i64 0, .slice none 0 0, .slice none 0 0] 50)
  generalize V.alloc (.cells #[.bool false, .int .i64 0, .int .i64 0, .int .i64 0, .int .i64 0, .int .i64 0, .slice none 0 0, .int .u8 0, .int .i64 0, .int .i64 0, .slice none 0 0, .slice none 0 0] 50) = W at *
  refine (great6_of (Nat.le_refl _) (some ⟨V.heap.size, 0, none⟩) 1 1 [({} : Act6)] ⟨rfl, Nat.le_refl _, by omega, fun a ha => ?_, fun _ => ⟨V.heap.size, 0, rfl, (Array.getElem?_eq_some_iff.1 hr).1, fun j a ha k v hv => ?_⟩, fun h => by cases h⟩).mono fun r w' ⟨b, h1, h2, _⟩ => ⟨b, h1, hx.trans h2⟩
  · obtain rfl := List.mem_singleton.1 ha
    exact ⟨By.nil_ W, Act5.sector 0 W W.heap.size (by decide)⟩
  · match j, ha with
    | 0, ha =>
      injection ha with ha
      subst ha
      rw [show 0 + (0 * 12 + k) = k by omega, cell_of_row W V.heap.size k _ _ _ hr]
      exact (List.getElem?_toArray ..).trans hv
/-- An act that holds an entry and nothing else. -/
def actW (e : Ent) : Array Value := #[.int .u8 0, .int .i64 0, .int .i64 0, .int .i64 0, .int .i64 0, .int .u8 (e.k : Int), .int .i64 e.cl, .int .i64 e.sq, .int .u8 (e.ok : Int), .string e.key, .string e.old, .string e.val, .bool false, .int .i64 0, .int .i64 0, .int .i64 0, .int .i64 0, .int .i64 0, .slice none 0 0, .int .u8 0, .int .i64 0, .int .i64 0, .slice none 0 0, .slice none 0 0]
theorem actW_cells {w : World} {g : Nat} {e : Ent} {t : TypeId} (h : w.heap[g]? = some (.cells (actW e) t (0, 0))) :
    (w.cell? ⟨g, 8, none⟩ = some (.int .u8 (e.ok : Int)) ∧ w.cell? ⟨g, 9, none⟩ = some (.string e.key) ∧ w.cell? ⟨g, 10, none⟩ = some (.string e.old) ∧ w.cell? ⟨g, 11, none⟩ = some (.string e.val)) ∧
    w.cell? ⟨g, 12, none⟩ = some (.bool false) ∧ w.cell? ⟨g, 13, none⟩ = some (.int .i64 0) ∧ w.cell? ⟨g, 14, none⟩ = some (.int .i64 0) ∧ w.cell? ⟨g, 15, none⟩ = some (.int .i64 0) ∧ w.cell? ⟨g, 16, none⟩ = some (.int .i64 0) ∧ w.cell? ⟨g, 17, none⟩ = some (.int .i64 0) ∧ w.cell? ⟨g, 18, none⟩ = some (.slice none 0 0) ∧ w.cell? ⟨g, 19, none⟩ = some (.int .u8 0) ∧ w.cell? ⟨g, 20, none⟩ = some (.int .i64 0) ∧ w.cell? ⟨g, 21, none⟩ = some (.int .i64 0) ∧ w.cell? ⟨g, 22, none⟩ = some (.slice none 0 0) ∧ w.cell? ⟨g, 23, none⟩ = some (.slice none 0 0) :=
  ⟨⟨cell_of_row w g 8 _ _ _ h, cell_of_row w g 9 _ _ _ h, cell_of_row w g 10 _ _ _ h, cell_of_row w g 11 _ _ _ h⟩, cell_of_row w g 12 _ _ _ h, cell_of_row w g 13 _ _ _ h, cell_of_row w g 14 _ _ _ h, cell_of_row w g 15 _ _ _ h, cell_of_row w g 16 _ _ _ h, cell_of_row w g 17 _ _ _ h, cell_of_row w g 18 _ _ _ h, cell_of_row w g 19 _ _ _ h, cell_of_row w g 20 _ _ _ h, cell_of_row w g 21 _ _ _ h, cell_of_row w g 22 _ _ _ h, cell_of_row w g 23 _ _ _ h⟩
set_option maxRecDepth 100000 in
set_option maxHeartbeats 800000 in
theorem wgreat_one (g : Nat) (e : Ent) (w : World) (h : w.heap[g]? = some (.cells (actW e) 52 (0, 0))) :
    Calls Tryz.prog 8 #[.slice (some ⟨g, 0, none⟩) 1 1] w fun r w' => ∃ b : Bool, r = .returned (.bool b) ∧ Ext w w' := by
  obtain ⟨⟨c8, c9, c10, c11⟩, d0, d1, d2, d3, d4, d5, d6, d7, d8, d9, d10, d11⟩ := actW_cells h
  have hlt := (Array.getElem?_eq_some_iff.1 h).1
  clear h
  by_cases k1 : 100 < e.key.size
  · have h1 : ¬ (e.key.size : Int) ≤ 100 := by omega
    clear k1
    go_enter Tryz.func8, Tryz.ntmps8
    go_wp2_with fail
    refine wp_loop_rounds 2 ?_
    rw [rounds_succ]
    go_wp2_with fail
    go_ret
    exact ⟨true, rfl, (Ext.refl w).alloc _⟩
  by_cases k2 : 100 < e.old.size
  · have h1 : (e.key.size : Int) ≤ 100 := by omega
    have h2 : ¬ (e.old.size : Int) ≤ 100 := by omega
    clear k1 k2
    go_enter Tryz.func8, Tryz.ntmps8
    go_wp2_with fail
    refine wp_loop_rounds 2 ?_
    rw [rounds_succ]
    go_wp2_with fail
    go_ret
    exact ⟨true, rfl, (Ext.refl w).alloc _⟩
  by_cases k3 : 100 < e.val.size
  · have h1 : (e.key.size : Int) ≤ 100 := by omega
    have h2 : (e.old.size : Int) ≤ 100 := by omega
    have h3 : ¬ (e.val.size : Int) ≤ 100 := by omega
    clear k1 k2 k3
    go_enter Tryz.func8, Tryz.ntmps8
    go_wp2_with fail
    refine wp_loop_rounds 2 ?_
    rw [rounds_succ]
    go_wp2_with fail
    go_ret
    exact ⟨true, rfl, (Ext.refl w).alloc _⟩
  have h1 : (e.key.size : Int) ≤ 100 := by omega
  have h2 : (e.old.size : Int) ≤ 100 := by omega
  have h3 : (e.val.size : Int) ≤ 100 := by omega
  clear k1 k2 k3
  go_enter Tryz.func8, Tryz.ntmps8
  go_wp2_with fail
  refine wp_loop_rounds 2 ?_
  rw [rounds_succ]
  go_wp2_with fail
  refine (great6_zero (w.alloc (.cells #[.int .u8 (e.ok : Int), .string e.key, .string e.old, .string e.val] 40)) (w.heap.size + 1) (by simp)).mono ?_
  rintro r w1 ⟨b, rfl, hx⟩
  have HX : Hid (Ext w w1) := Lib.hid (((Ext.refl w).alloc _).trans hx)
  clear hx
  cases b with
  | true =>
    go_wp2_with fail
    go_ret
    exact ⟨true, rfl, HX.out⟩
  | false =>
    go_wp2_with fail
    rw [rounds_succ]
    go_wp2_with fail
    go_ret
    exact ⟨false, rfl, HX.out⟩
end Go.Proofs.YtmacebglfniegaaGreatDoor

namespace Go.Proofs.YtmacebglfniegaaGreatDoor
open Go Go.RowKit
theorem wrap_mod (z : Int) (N : Nat) (h0 : 0 < N) (hN : N ≤ 1000) : ∃ q : Nat, q < N ∧ wrap64 ((IntKind.u64.wrap z).tmod (N : Int)) = (q : Int) := by
  have h1 : 0 ≤ IntKind.u64.wrap z := by rw [IntKind.wrap_u64]; omega
  have h2 := Int.emod_nonneg (IntKind.u64.wrap z) (show (N : Int) ≠ 0 by omega)
  have h3 := Int.emod_lt_of_pos (IntKind.u64.wrap z) (show (0 : Int) < N by omega)
  refine ⟨((IntKind.u64.wrap z) % N).toNat, by omega, ?_⟩
  rw [Int.tmod_eq_emod_of_nonneg h1, IntWalk.wrap64_in _ (by omega)]
  omega
end Go.Proofs.YtmacebglfniegaaGreatDoor
