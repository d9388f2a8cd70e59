/-
  CellNone: of a disk that nobody made, and of one that is too small, there is no cell.
-/
import Derived.Test.YtbflofkcfhihcaaDoorQ10
import Derived.Test.YtbflofkcfhihcaaDoorQ17
import Derived.Test.YtbflofkcfhihcaaDoorQ26
import Derived.Test.YtbflofkcfhihcaaDoorQ31
namespace Go.Proofs.YtbflofkcfhihcaaDoor
open Go Go.RowKit Go.Shelf

/-- What the calls answer of a pointer: the error. -/
structure NoCell (w : World) (p : Option Addr) (r g c : Int) (A : Option Addr) (n cp : Nat) (E : Int) : Prop where
  load : Calls Tryd.prog 9 #[.pointer p, .int .i64 r, .int .i64 g] w fun e w' => e = .returned (.tuple #[.int .i64 0, .slice none 0 0, .int .i64 E]) ∧ Ext w w'
  heal : ∀ V, Ext w V → Calls Tryd.prog 10 #[.pointer p, .int .i64 r, .int .i64 g] V fun e w' => e = .returned (.int .i64 E) ∧ Ext V w'
  store : ∀ V, Ext w V → Calls Tryd.prog 11 #[.pointer p, .int .i64 r, .int .i64 g, .int .i64 c, .slice A n cp] V fun e w' => e = .returned (.int .i64 E) ∧ Ext V w'
theorem nocell_of {w : World} {p : Option Addr} {sz : Nat} (hS : ∀ V, Ext w V → Sized V p sz) (hL : LaidT w) (r g c : Int) (A : Option Addr) (n cp : Nat) (E : Int) (hE : knownC sz r g = E) (h0 : E ≠ 0) : NoCell w p r g c A n cp E := by
  subst hE
  exact ⟨Load_unknown (hS w (Ext.refl w)) hL r g h0, fun V hx => Heal_unknown (hS V hx) (hL.ext hx) r g h0, fun V hx => Store_unknown (hS V hx) (hL.ext hx) r g c A n cp h0⟩
theorem unmade_extC {w w' : World} {p : Option Addr} (h : Unmade w p) (k : Ext w w') : Unmade w' p := by
  rcases h with h | ⟨a, h1, h2⟩
  · exact .inl h
  · exact .inr ⟨a, h1, (Below.cell k (p := ⟨a, 0, none⟩) (World.block_lt_of_cell? w _ h2)).trans h2⟩
/-- The three pointers. -/
structure ThreeC (w W : World) (R : Nat) (r g c : Int) (A : Option Addr) (n cp : Nat) : Prop where
  ext : Ext w W
  ps : ∀ k : Nat, k < 3 → ∃ pp, W.cell? ⟨R, k, none⟩ = some (.pointer pp) ∧ ∀ V, Ext W V → NoCell V pp r g c A n cp (if k = 2 then 2 else 1)
theorem cell_extC {w w' : World} {g i : Nat} {v : Value} (h : Ext w w') (hc : w.cell? ⟨g, i, none⟩ = some v) : w'.cell? ⟨g, i, none⟩ = some v := (Below.cell h (p := ⟨g, i, none⟩) (World.block_lt_of_cell? w _ hc)).trans hc
theorem threeC_of {w w1 W : World} {d q R : Nat} {F : Nat → Prop} (hx : Ext w w1) (hp : PDisk w1 d F (DM.new (q + 1))) (hq : q < 155) (hL : LaidT w1) (r g c : Int) (A : Option Addr) (n cp : Nat)
    (hW : W = ((w1.alloc (.cells #[.pointer none, .int .u8 0, .int .i64 0, .slice none 0 0, .slice none 0 0] 31)).alloc (.cells #[.pointer none, .pointer (some ⟨w1.heap.size, 0, none⟩), .pointer (some ⟨d, 0, none⟩)] 23))) (hR : R = w1.heap.size + 1) : ThreeC w W R r g c A n cp := by
  have e1 : Ext w1 (w1.alloc (.cells #[.pointer none, .int .u8 0, .int .i64 0, .slice none 0 0, .slice none 0 0] 31)) := (Ext.refl w1).alloc _
  have e2 : Ext (w1.alloc (.cells #[.pointer none, .int .u8 0, .int .i64 0, .slice none 0 0, .slice none 0 0] 31)) W := hW ▸ (Ext.refl _).alloc _
  have e3 := e1.trans e2
  have h1 := heap_alloc_new w1 (.cells #[.pointer none, .int .u8 0, .int .i64 0, .slice none 0 0, .slice none 0 0] 31)
  have h2 := heap_alloc_new (w1.alloc (.cells #[.pointer none, .int .u8 0, .int .i64 0, .slice none 0 0, .slice none 0 0] 31)) (.cells #[.pointer none, .pointer (some ⟨w1.heap.size, 0, none⟩), .pointer (some ⟨d, 0, none⟩)] 23)
  rw [World.size_alloc, ← hW, ← hR] at h2
  have u2 := cell_extC e2 (cell_of_row _ w1.heap.size 0 _ _ _ h1)
  have hsz : (DM.new (q + 1)).size = q + 1 := by simp [DM.new, DM.size]
  refine ⟨hx.trans e3, fun k hk => ?_⟩
  match k, hk with
  | 0, _ => exact ⟨none, cell_of_row _ _ 0 _ _ _ h2, fun V hV => nocell_of (sz := 0) (fun V' hx V'' hx' => size_no _ V'' (.inl rfl)) (hL.ext (e3.trans hV)) r g c A n cp 1 rfl (by omega)⟩
  | 1, _ => exact ⟨some ⟨w1.heap.size, 0, none⟩, cell_of_row _ _ 1 _ _ _ h2, fun V hV => nocell_of (sz := 0) (fun V' hx V'' hx' => size_no _ V'' (unmade_extC (.inr ⟨_, rfl, cell_extC hV u2⟩) (hx.trans hx'))) (hL.ext (e3.trans hV)) r g c A n cp 1 rfl (by omega)⟩
  | 2, _ => exact ⟨some ⟨d, 0, none⟩, cell_of_row _ _ 2 _ _ _ h2, fun V hV => nocell_of (sz := q + 1) (fun V' hx => by have := Sized.of ((hp.ext (e3.trans hV)).ext hx); rwa [hsz] at this) (hL.ext (e3.trans hV)) r g c A n cp 2 (by unfold knownC; rw [if_neg (by omega), if_pos (.inl (by omega))]) (by omega)⟩

set_option maxRecDepth 100000 in
set_option maxHeartbeats 1600000 in
theorem cellNone_law (r g c z : Int) (A : Option Addr) (n cp : Nat) (l : List Nat) (w : World) (_ : (Lit.int .i64 r).wf = true) (_ : (Lit.int .i64 g).wf = true) (_ : (Lit.int .i64 c).wf = true) (_ : (Lit.int .i64 z).wf = true) (_ : Bs w w.heap.size A n cp l) (hL : LaidF w) :
    Calls Tryd.prog 3 #[.int .i64 r, .int .i64 g, .int .i64 c, .int .i64 z, .slice A n cp] w fun e w' => e = .returned (.bool true) ∧ Ext w w' := by
  by_cases hbig : 100 < n
  · clear hL
    go_enter Tryd.func3, Tryd.ntmps3
    go_wp2_with fail
    go_ret
    exact ⟨rfl, Ext.refl _⟩
  obtain ⟨q, hq, hwq⟩ := wrap_mod z 155 (by omega) (by omega)
  have hwq : wrap64 ((IntKind.u64.wrap z).tmod 155) = (q : Int) := hwq
  have hn := new_pdk (q + 1) w (by omega) (by omega)
  rw [show ((q + 1 : Nat) : Int) = 1 + (q : Int) by omega] at hn
  have HN := Lib.hid hn
  have HL := Lib.hid hL
  have HQ := Lib.hid hq
  clear hn hL
  go_enter Tryd.func3, Tryd.ntmps3
  go_wp2_with fail
  refine HN.out.mono ?_
  rintro e w1 ⟨d, rfl, hp, hx⟩
  have HP := Lib.hid hp
  have HX := Lib.hid hx
  clear hp hx
  go_wp2_with fail
  obtain ⟨W, hW⟩ : ∃ W, W = ((w1.alloc (.cells #[.pointer none, .int .u8 0, .int .i64 0, .slice none 0 0, .slice none 0 0] 31)).alloc (.cells #[.pointer none, .pointer (some ⟨w1.heap.size, 0, none⟩), .pointer (some ⟨d, 0, none⟩)] 23)) := ⟨_, rfl⟩
  obtain ⟨R, hR⟩ : ∃ R, R = w1.heap.size + 1 := ⟨_, rfl⟩
  have ht := threeC_of HX.out HP.out HQ.out (HL.out.ext HX.out).a.t r g c A n cp hW hR
  rw [← hW, ← hR]
  have HT := Lib.hid ht
  clear ht hW hR HP HN hq
  go_loopw [15] (fun i wr => ∃ k : Nat, k ≤ 3 ∧ i = .int .i64 k ∧ Hid (Ext W wr)) (fun i _ => 3 - (intOf i).toNat)
  case atStart => exact ⟨0, Nat.zero_le _, rfl, Lib.hid (Ext.refl _)⟩
  case round =>
    obtain ⟨k, hk3, rfl, HQ⟩ := hrel
    by_cases hk : k < 3
    · obtain ⟨pp, hpp, hno⟩ := HT.out.ps k hk
      have hN := hno wr HQ.out
      have HPP := Lib.hid (cell_extC HQ.out hpp)
      have c0 := cell_extC HQ.out hpp
      by_cases hk2 : k = 2
      · subst hk2
        rw [if_pos rfl] at hN
        have HN := Lib.hid hN
        clear hpp hno hN
        go_wp2_with fail
        refine HN.out.load.mono ?_
        rintro e v1 ⟨rfl, hx⟩
        have HA := Lib.hid hx
        have c0 := cell_extC hx HPP.out
        clear hx
        go_wp2_with fail
        refine (HN.out.heal _ HA.out).mono ?_
        rintro e v2 ⟨rfl, hx⟩
        have HA := Lib.hid (HA.out.trans hx)
        have c0 := cell_extC HA.out HPP.out
        clear hx
        go_wp2_with fail
        refine (HN.out.store _ HA.out).mono ?_
        rintro e v3 ⟨rfl, hx⟩
        have HA := Lib.hid (HA.out.trans hx)
        clear hx
        go_wp2_with fail
        go_roundw
        case rel => exact ⟨2 + 1, by omega, by go_num, Lib.hid (HQ.out.trans HA.out)⟩
        case measure => simp [intOf]
      · rw [if_neg hk2] at hN
        have HN := Lib.hid hN
        have hne : ((k : Int) == 2) = false := by simp; omega
        clear hpp hno hN
        go_wp2_with fail
        refine HN.out.load.mono ?_
        rintro e v1 ⟨rfl, hx⟩
        have HA := Lib.hid hx
        have c0 := cell_extC hx HPP.out
        clear hx
        go_wp2_with fail
        refine (HN.out.heal _ HA.out).mono ?_
        rintro e v2 ⟨rfl, hx⟩
        have HA := Lib.hid (HA.out.trans hx)
        have c0 := cell_extC HA.out HPP.out
        clear hx
        go_wp2_with fail
        refine (HN.out.store _ HA.out).mono ?_
        rintro e v3 ⟨rfl, hx⟩
        have HA := Lib.hid (HA.out.trans hx)
        clear hx
        go_wp2_with fail
        go_roundw
        case rel => exact ⟨k + 1, by omega, by go_num, Lib.hid (HQ.out.trans HA.out)⟩
        case measure => simp [intOf]; omega
    · go_wp2_with fail
      go_ret
      exact ⟨rfl, HT.out.ext.trans HQ.out⟩
end Go.Proofs.YtbflofkcfhihcaaDoor
