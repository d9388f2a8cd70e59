/-
  GhostNone: of a disk that nobody made, and of one that is too small, nothing is told.
-/
import Derived.Test.YtldgamgdbneneaaDoorQ04
import Derived.Test.YtldgamgdbneneaaDoorQ09
import Derived.Test.YtldgamgdbneneaaDoorQ24
import Derived.Test.YtldgamgdbneneaaDoorQ25
namespace Go.Proofs.YtldgamgdbneneaaDoor
open Go Go.RowKit Go.Shelf

theorem new_at (n : Nat) (s : Int) (hs : 0 ≤ s) (hn : s < n) : (DM.new n).hurt s = false := by
  obtain ⟨k, rfl⟩ := Int.eq_ofNat_of_zero_le hs
  have hk : k < n := by omega
  unfold DM.hurt DM.at_ DM.means DM.has DM.size DM.new
  simp [hk]
theorem new_hurts (n : Nat) : hurtsIn (DM.new n).hurt 0 n = [] := hurtsIn_nil fun s h1 h2 => new_at n s h1 (by omega)

/-- What the observers tell of a pointer: nothing, but the error. -/
structure Nothing (w : World) (p : Option Addr) (r g pl : Int) (E : Int) : Prop where
  place : Calls Tryd.prog 8 #[.pointer p, .int .i64 r, .int .i64 g, .int .i64 pl] w fun e w' => e = .returned (.tuple #[.bool false, .bool false, .int .i64 E]) ∧ Ext w w'
  seen : ∀ V, Ext w V → Calls Tryd.prog 9 #[.pointer p, .int .i64 r] V fun e w' => e = .returned (.tuple #[.bool false, .int .i64 E]) ∧ Ext V w'
  honest : ∀ V, Ext w V → Calls Tryd.prog 10 #[.pointer p, .int .i64 r, .int .i64 g, .int .i64 pl] V fun e w' => e = .returned (.tuple #[.int .u8 0, .agg #[.int .i64 0, .int .i64 0, .int .i64 0, .int .i64 0, .int .i64 0], .slice none 0 0, .int .i64 E]) ∧ Ext V w'
  hurt : ∀ V, Ext w V → Calls Tryd.prog 11 #[.pointer p] V fun e w' => ∃ A c, e = .returned (.slice A 0 c) ∧ Ext V w'
theorem hurt_none {w : World} {p : Option Addr} {sz : Nat} (hS : Sized w p sz) (hsz : sz ≤ 1024) (h : Int → Bool) (hI : HurtsOn (fun i => w.heap.size ≤ i) w p 0 sz h) (hn : hurtsIn h 0 sz = []) :
    Calls Tryd.prog 11 #[.pointer p] w fun e w' => ∃ A c, e = .returned (.slice A 0 c) ∧ Ext w w' :=
  (hurt_any hS hsz h hI).mono fun e w' ⟨v, he, ho, hx⟩ => by
    rw [hn] at ho
    obtain ⟨A, c, rfl, _, _⟩ := own_form ho
    exact ⟨A, c, he, hx⟩
theorem unmade_ext {w w' : World} {p : Option Addr} (h : Unmade w p) (k : Ext w w') : Unmade w' p := by
  rcases h with h | ⟨a, h1, h2⟩
  · exact .inl h
  · exact .inr ⟨a, h1, ext_of_cell k h2⟩
theorem nothing_no {w : World} {p : Option Addr} (h : Unmade w p) (hL : LaidT w) (r g pl : Int) : Nothing w p r g pl 1 := by
  have hS : ∀ V, Ext w V → Sized V p 0 := fun V hx V' hx' => size_no p V' (unmade_ext h (hx.trans hx'))
  have e1 : knownG 0 r = 1 := rfl
  have e2 : placeG 0 r g pl = 1 := by unfold placeG; rw [e1]; rfl
  refine ⟨?_, fun V hx => ?_, fun V hx => ?_, fun V hx => ?_⟩
  · have := place_err (hS w (Ext.refl w)) hL r g pl (by rw [e2]; omega)
    rwa [e2] at this
  · have := seen_err (hS V hx) (hL.ext hx) r (by rw [e1]; omega)
    rwa [e1] at this
  · have := honest_err (hS V hx) (hL.ext hx) r g pl (by rw [e2]; omega)
    rwa [e2] at this
  · exact hurt_none (hS V hx) (by omega) (fun _ => false) (HurtsOn.none _ _ _ _ _) rfl
theorem nothing_small {w : World} {d n : Nat} {F : Nat → Prop} (h : PDisk w d F (DM.new n)) (h1 : 1 ≤ n) (hn : n < 156) (hL : LaidT w) (r g pl : Int) : Nothing w (some ⟨d, 0, none⟩) r g pl 2 := by
  have hsz : (DM.new n).size = n := by simp [DM.new, DM.size]
  have e1 : knownG n r = 2 := by unfold knownG; rw [if_neg (by omega), if_pos (.inl hn)]
  have e2 : placeG n r g pl = 2 := by unfold placeG; rw [e1]; rfl
  have hS : ∀ V, Ext w V → Sized V (some ⟨d, 0, none⟩) n := fun V hx => by
    have := Sized.of (h.ext hx)
    rwa [hsz] at this
  refine ⟨?_, fun V hx => ?_, fun V hx => ?_, fun V hx => ?_⟩
  · have := place_err (hS w (Ext.refl w)) hL r g pl (by rw [e2]; omega)
    rwa [e2] at this
  · have := seen_err (hS V hx) (hL.ext hx) r (by rw [e1]; omega)
    rwa [e1] at this
  · have := honest_err (hS V hx) (hL.ext hx) r g pl (by rw [e2]; omega)
    rwa [e2] at this
  · exact hurt_none (hS V hx) (by omega) (DM.new n).hurt (HurtsOn.of (h.ext hx) (fun i hi hg => absurd ((h.ext hx).lt i hi) (by omega)) 0 n) (new_hurts n)

/-- The three pointers. -/
structure Three (w W : World) (R : Nat) (r g pl : Int) : Prop where
  ext : Ext w W
  ps : ∀ k : Nat, k < 3 → ∃ pp, W.cell? ⟨R, k, none⟩ = some (.pointer pp) ∧ ∀ V, Ext W V → Nothing V pp r g pl (if k = 2 then 2 else 1)

theorem three_of {w w1 W : World} {d q R : Nat} {F : Nat → Prop} (hx : Ext w w1) (hp : PDisk w1 d F (DM.new (q + 1))) (hq : q < 155) (hL : LaidT w1) (r g pl : Int)
    (hW : W = ((w1.alloc (.cells #[.pointer none, .int .u8 0, .int .i64 0, .slice none 0 0, .slice none 0 0] 30)).alloc (.cells #[.pointer none, .pointer (some ⟨w1.heap.size, 0, none⟩), .pointer (some ⟨d, 0, none⟩)] 23))) (hR : R = w1.heap.size + 1) : Three w W R r g pl := by
  have e1 : Ext w1 (w1.alloc (.cells #[.pointer none, .int .u8 0, .int .i64 0, .slice none 0 0, .slice none 0 0] 30)) := (Ext.refl w1).alloc _
  have e2 : Ext (w1.alloc (.cells #[.pointer none, .int .u8 0, .int .i64 0, .slice none 0 0, .slice none 0 0] 30)) W := hW ▸ (Ext.refl _).alloc _
  have e3 := e1.trans e2
  have h1 := heap_alloc_new w1 (.cells #[.pointer none, .int .u8 0, .int .i64 0, .slice none 0 0, .slice none 0 0] 30)
  have h2 := heap_alloc_new (w1.alloc (.cells #[.pointer none, .int .u8 0, .int .i64 0, .slice none 0 0, .slice none 0 0] 30)) (.cells #[.pointer none, .pointer (some ⟨w1.heap.size, 0, none⟩), .pointer (some ⟨d, 0, none⟩)] 23)
  rw [World.size_alloc, ← hW, ← hR] at h2
  have u2 := ext_of_cell e2 (cell_of_row _ w1.heap.size 0 _ _ _ h1)
  refine ⟨hx.trans e3, fun k hk => ?_⟩
  match k, hk with
  | 0, _ => exact ⟨none, cell_of_row _ _ 0 _ _ _ h2, fun V hV => nothing_no (.inl rfl) (hL.ext (e3.trans hV)) r g pl⟩
  | 1, _ => exact ⟨some ⟨w1.heap.size, 0, none⟩, cell_of_row _ _ 1 _ _ _ h2, fun V hV => nothing_no (.inr ⟨_, rfl, ext_of_cell hV u2⟩) (hL.ext (e3.trans hV)) r g pl⟩
  | 2, _ => exact ⟨some ⟨d, 0, none⟩, cell_of_row _ _ 2 _ _ _ h2, fun V hV => nothing_small (hp.ext (e3.trans hV)) (by omega) (by omega) (hL.ext (e3.trans hV)) r g pl⟩

set_option maxRecDepth 100000 in
set_option maxHeartbeats 1600000 in
theorem ghostNone_law (r g pl z : Int) (w : World) (_ : (Lit.int .i64 r).wf = true) (_ : (Lit.int .i64 g).wf = true) (_ : (Lit.int .i64 pl).wf = true) (_ : (Lit.int .i64 z).wf = true) (hL : LaidF w) :
    Calls Tryd.prog 3 #[.int .i64 r, .int .i64 g, .int .i64 pl, .int .i64 z] w fun e w' => e = .returned (.bool true) ∧ Ext w w' := by
  obtain ⟨q, hq, hwq⟩ := wrap_mod z 155 (by omega) (by omega)
  have hwq : wrap64 ((IntKind.u64.wrap z).tmod 155) = (q : Int) := hwq
  have hn := new_pdk (q + 1) w (by omega) (by omega)
  rw [show ((q + 1 : Nat) : Int) = 1 + (q : Int) by omega] at hn
  have HN := Lib.hid hn
  have HL := Lib.hid hL
  have HQ := Lib.hid hq
  clear hn hL
  go_enter Tryd.func3, Tryd.ntmps3
  go_wp2_with fail
  refine HN.out.mono ?_
  rintro e w1 ⟨d, rfl, hp, hx⟩
  have HP := Lib.hid hp
  have HX := Lib.hid hx
  clear hp hx
  go_wp2_with fail
  obtain ⟨W, hW⟩ : ∃ W, W = ((w1.alloc (.cells #[.pointer none, .int .u8 0, .int .i64 0, .slice none 0 0, .slice none 0 0] 30)).alloc (.cells #[.pointer none, .pointer (some ⟨w1.heap.size, 0, none⟩), .pointer (some ⟨d, 0, none⟩)] 23)) := ⟨_, rfl⟩
  obtain ⟨R, hR⟩ : ∃ R, R = w1.heap.size + 1 := ⟨_, rfl⟩
  have ht := three_of HX.out HP.out HQ.out (HL.out.ext HX.out).a.t r g pl hW hR
  rw [← hW, ← hR]
  have HT := Lib.hid ht
  clear ht hW hR HP HN hq
  go_loopw [13] (fun i wr => ∃ k : Nat, k ≤ 3 ∧ i = .int .i64 k ∧ Hid (Ext W wr)) (fun i _ => 3 - (intOf i).toNat)
  case atStart => exact ⟨0, Nat.zero_le _, rfl, Lib.hid (Ext.refl _)⟩
  case round =>
    obtain ⟨k, hk3, rfl, HQ⟩ := hrel
    by_cases hk : k < 3
    · obtain ⟨pp, hpp, hno⟩ := HT.out.ps k hk
      have hN := hno wr HQ.out
      have HPP := Lib.hid (ext_of_cell HQ.out hpp)
      have c0 := ext_of_cell HQ.out hpp
      by_cases hk2 : k = 2
      · subst hk2
        rw [if_pos rfl] at hN
        have HN := Lib.hid hN
        clear hpp hno hN
        go_wp2_with fail
        refine HN.out.place.mono ?_
        rintro e v1 ⟨rfl, hx⟩
        have HA := Lib.hid hx
        have c0 := ext_of_cell hx HPP.out
        clear hx
        go_wp2_with fail
        refine (HN.out.seen _ HA.out).mono ?_
        rintro e v2 ⟨rfl, hx⟩
        have HA := Lib.hid (HA.out.trans hx)
        have c0 := ext_of_cell HA.out HPP.out
        clear hx
        go_wp2_with fail
        refine (HN.out.honest _ HA.out).mono ?_
        rintro e v3 ⟨rfl, hx⟩
        have HA := Lib.hid (HA.out.trans hx)
        have HB := Lib.hid (HA.out.alloc (.cells #[.int .i64 0, .int .i64 0, .int .i64 0, .int .i64 0, .int .i64 0] 37))
        have HR := Lib.hid (heap_alloc_new v3 (.cells #[.int .i64 0, .int .i64 0, .int .i64 0, .int .i64 0, .int .i64 0] 37))
        have c0 := ext_of_cell HA.out HPP.out
        have c1 := ext_of_cell HB.out HPP.out
        clear hx
        go_wp2_with fail
        refine (HN.out.hurt _ HB.out).mono ?_
        rintro e v4 ⟨A4, c4, rfl, hx⟩
        have hr := (hx.block _ (Array.getElem?_eq_some_iff.1 HR.out).1).trans HR.out
        have HC := Lib.hid (HB.out.trans hx)
        have hq := tag_neq 0 0 0 0 0 0 0 0 0 0
        obtain ⟨⟨i0, i1, i2, i3, i4⟩, _⟩ := five_cells hr
        clear hx hr
        go_wp2_with fail
        go_roundw
        case rel => exact ⟨2 + 1, by omega, by go_num, Lib.hid (HQ.out.trans HC.out)⟩
        case measure => simp [intOf]
      · rw [if_neg hk2] at hN
        have HN := Lib.hid hN
        have hne : ((k : Int) == 2) = false := by simp; omega
        clear hpp hno hN
        go_wp2_with fail
        refine HN.out.place.mono ?_
        rintro e v1 ⟨rfl, hx⟩
        have HA := Lib.hid hx
        have c0 := ext_of_cell hx HPP.out
        clear hx
        go_wp2_with fail
        refine (HN.out.seen _ HA.out).mono ?_
        rintro e v2 ⟨rfl, hx⟩
        have HA := Lib.hid (HA.out.trans hx)
        have c0 := ext_of_cell HA.out HPP.out
        clear hx
        go_wp2_with fail
        refine (HN.out.honest _ HA.out).mono ?_
        rintro e v3 ⟨rfl, hx⟩
        have HA := Lib.hid (HA.out.trans hx)
        have HB := Lib.hid (HA.out.alloc (.cells #[.int .i64 0, .int .i64 0, .int .i64 0, .int .i64 0, .int .i64 0] 37))
        have HR := Lib.hid (heap_alloc_new v3 (.cells #[.int .i64 0, .int .i64 0, .int .i64 0, .int .i64 0, .int .i64 0] 37))
        have c0 := ext_of_cell HA.out HPP.out
        have c1 := ext_of_cell HB.out HPP.out
        clear hx
        go_wp2_with fail
        refine (HN.out.hurt _ HB.out).mono ?_
        rintro e v4 ⟨A4, c4, rfl, hx⟩
        have hr := (hx.block _ (Array.getElem?_eq_some_iff.1 HR.out).1).trans HR.out
        have HC := Lib.hid (HB.out.trans hx)
        have hq := tag_neq 0 0 0 0 0 0 0 0 0 0
        obtain ⟨⟨i0, i1, i2, i3, i4⟩, _⟩ := five_cells hr
        clear hx hr
        go_wp2_with fail
        go_roundw
        case rel => exact ⟨k + 1, by omega, by go_num, Lib.hid (HQ.out.trans HC.out)⟩
        case measure => simp [intOf]; omega
    · go_wp2_with fail
      go_ret
      exact ⟨rfl, HT.out.ext.trans HQ.out⟩
end Go.Proofs.YtldgamgdbneneaaDoor
