/-
  The contract of the frame's Mine.
-/
import Derived.Test.YtmbmpabjclkhlaaGreatDoorQ00
import Derived.Test.YtmbmpabjclkhlaaGreatDoorQ01
import Derived.Test.YtmbmpabjclkhlaaGreatDoorQ02
import Derived.Test.YtmbmpabjclkhlaaGreatDoorQ03
import Derived.Test.YtmbmpabjclkhlaaGreatDoorQ05
import Derived.Test.YtmbmpabjclkhlaaGreatDoorQ06
import Derived.Test.YtmbmpabjclkhlaaGreatDoorQ07
import Derived.Test.YtmbmpabjclkhlaaGreatDoorQ08
import Derived.Test.YtmbmpabjclkhlaaGreatDoorQ13
import Derived.Laws.AppendOwnNone
import Derived.Laws.OwnMore
import Derived.Deep.RegionHeld3
import Derived.Test.YtmbmpabjclkhlaaGreatDoorProg
import Derived.WalkKit
import Derived.WalkSpells
import Derived.BigQuiet
import Derived.Lib.Hide
import Derived.Laws.BitsAllLaws
namespace Go.Proofs.YtmbmpabjclkhlaaGreatDoor
set_option maxRecDepth 100000
section
open Go Go.RowKit
def mineB (l : List Nat) (x y z : Int) : Bool := goodB l && (decide ((ofl l 0 : Int) = x) && (decide ((ofl l 1 : Int) = y) && decide ((ofl l 2 : Int) = z)))
def stM (l : List Nat) (x y z : Int) : Nat := if goodB l = true then (if mineB l x y z = true then 1 else 2) else stN l
def mfl (l : List Nat) (x y z : Int) (k : Nat) : Nat := if mineB l x y z = true then ofl l k else 0
def mbl (l : List Nat) (x y z : Int) : List Nat := if mineB l x y z = true then obl l else []
theorem mineB_bad {l : List Nat} {x y z : Int} (h : goodB l = false) : mineB l x y z = false := by unfold mineB; rw [h]; rfl
theorem mine_bad {l : List Nat} {x y z : Int} (h : goodB l = false) : stM l x y z = stN l ∧ (∀ k, mfl l x y z k = ofl l k) ∧ mbl l x y z = obl l := by
  refine ⟨by unfold stM; rw [if_neg (by rw [h]; simp)], fun k => ?_, ?_⟩
  · unfold mfl; rw [if_neg (by rw [mineB_bad h]; simp), ofl_no h]
  · unfold mbl; rw [if_neg (by rw [mineB_bad h]; simp), obl_no h]
theorem mine_yes {l : List Nat} {x y z : Int} (h : goodB l = true) (hm : mineB l x y z = true) : stM l x y z = 1 ∧ (∀ k, mfl l x y z k = ofl l k) ∧ mbl l x y z = obl l := by
  refine ⟨by unfold stM; rw [if_pos h, if_pos hm], fun k => ?_, ?_⟩
  · unfold mfl; rw [if_pos hm]
  · unfold mbl; rw [if_pos hm]
theorem mine_no {l : List Nat} {x y z : Int} (h : goodB l = true) (hm : mineB l x y z = false) : stM l x y z = 2 ∧ (∀ k, mfl l x y z k = 0) ∧ mbl l x y z = [] := by
  refine ⟨by unfold stM; rw [if_pos h, if_neg (by rw [hm]; simp)], fun k => ?_, ?_⟩
  · unfold mfl; rw [if_neg (by rw [hm]; simp)]
  · unfold mbl; rw [if_neg (by rw [hm]; simp)]
theorem mineB_iff {l : List Nat} {x y z : Int} (h : goodB l = true) : mineB l x y z = true ↔ (ofl l 0 : Int) = x ∧ (ofl l 1 : Int) = y ∧ (ofl l 2 : Int) = z := by
  unfold mineB
  rw [h]
  simp
theorem By.far {W V : World} {A : Option Addr} {n c h0 : Nat} {l : List Nat} (h : By W A n c l) (hne : ∀ g o, A = some ⟨g, o, none⟩ → 0 < n → h0 ≠ g) (hk : ∀ g k, h0 ≠ g → V.cell? ⟨g, k, none⟩ = W.cell? ⟨g, k, none⟩) (hs : W.heap.size ≤ V.heap.size) : By V A n c l := by
  refine ⟨h.len, h.cap, h.most, ⟨h.rd.lt, fun hn => ?_⟩, Bs.nil_ h⟩
  obtain ⟨g, o, e, hg, hc⟩ := h.rd.2 hn
  have hne' := hne g o e (by have := h.len; omega)
  exact ⟨g, o, e, by omega, fun j x hx => (hk g (o + j) hne').trans (hc j x hx)⟩
theorem five_size (w : World) (g : Nat) (x0 x1 x2 x3 x4 : Value) : w.heap.size ≤ (((((w.setCell ⟨g, 0, none⟩ x0).setCell ⟨g, 1, none⟩ x1).setCell ⟨g, 2, none⟩ x2).setCell ⟨g, 3, none⟩ x3).setCell ⟨g, 4, none⟩ x4).heap.size := by
  simp [World.setCell]
theorem By.five {W : World} {A : Option Addr} {n c h0 : Nat} {l : List Nat} (h : By W A n c l) (hne : ∀ g o, A = some ⟨g, o, none⟩ → 0 < n → h0 ≠ g) (x0 x1 x2 x3 x4 : Value) :
    By (((((W.setCell ⟨h0, 0, none⟩ x0).setCell ⟨h0, 1, none⟩ x1).setCell ⟨h0, 2, none⟩ x2).setCell ⟨h0, 3, none⟩ x3).setCell ⟨h0, 4, none⟩ x4) A n c l :=
  h.far hne (fun _ _ hg => five_far hg _ _ _ _ _) (five_size _ _ _ _ _ _ _)
theorem Piece.ge {B : Nat} {w' : World} {A' : Option Addr} {N n : Nat} {l : List Nat} (h : Piece B w' A' N n l) : ∀ g o, A' = some ⟨g, o, none⟩ → 0 < N → B ≤ g := by
  intro g o e hN
  obtain ⟨g', c', e', _, ho⟩ := h hN
  rw [e] at e'
  injection e' with e'
  injection e' with e1 _
  subst e1
  exact (ho.lt g rfl).1
theorem Piece.ne {B : Nat} {w' : World} {A' : Option Addr} {N n h0 : Nat} {l : List Nat} (h : Piece B w' A' N n l) (hb : h0 < B) : ∀ g o, A' = some ⟨g, o, none⟩ → 0 < N → h0 ≠ g := by
  intro g o e hN
  obtain ⟨g', c', e', _, ho⟩ := h hN
  rw [e] at e'
  injection e' with e'
  injection e' with e1 _
  subst e1
  have := (ho.lt g rfl).1
  omega
set_option maxHeartbeats 6400000 in
theorem mine_own (A : Option Addr) (n cp : Nat) (l : List Nat) (x y z : Int) (w : World) (hL : LaidF w) (hb : By w A n cp l) :
    Calls Tryz.prog 205 #[.slice A n cp, .int .i64 x, .int .i64 y, .int .i64 z] w fun r w' => ∃ A' N, r = .returned (.tuple #[.int .u8 (stM l x y z), .agg #[.int .i64 (mfl l x y z 0), .int .i64 (mfl l x y z 1), .int .i64 (mfl l x y z 2), .int .i64 (mfl l x y z 3), .int .i64 (mfl l x y z 4)], .slice A' N N]) ∧ By w' A' N N (mbl l x y z) ∧ (∀ g o, A' = some ⟨g, o, none⟩ → 0 < N → w.heap.size ≤ g) ∧ Ext w w' := by
  have hz := heap_alloc_new w (.cells #[.int .i64 0, .int .i64 0, .int .i64 0, .int .i64 0, .int .i64 0] 44)
  have hE := (Ext.refl w).alloc (.cells #[.int .i64 0, .int .i64 0, .int .i64 0, .int .i64 0, .int .i64 0] 44)
  have HB := Lib.hid hb
  have HL := Lib.hid hL
  have HE := Lib.hid hE
  have HZ := Lib.hid hz
  clear hb hL hE hz
  go_enter Tryz.func205, Tryz.ntmps205
  go_wp2_with fail
  refine (open_any A n cp l _ (HL.out.ext HE.out) (HB.out.ext HE.out)).mono ?_
  rintro r w1 ⟨A1, N, rfl, hb1, hpc, hx⟩
  have hz1 := (hx.block _ (Array.getElem?_eq_some_iff.1 HZ.out).1).trans HZ.out
  have HE := Lib.hid (HE.out.trans hx)
  have HZ := Lib.hid hz1
  have HB1 := Lib.hid hb1
  obtain ⟨⟨c0, c1, c2, c3, c4⟩, f0, f1, f2, f3, f4⟩ := five_cells hz1
  have HNE := Lib.hid (hpc.ne (h0 := w.heap.size) (by simp))
  have HGE : Hid (∀ g o, A1 = some ⟨g, o, none⟩ → 0 < N → w.heap.size ≤ g) := Lib.hid fun g o hA hN => Nat.le_trans (by simp) (hpc.ge g o hA hN)
  clear hx hz1 hb1 hpc
  by_cases hg : goodB l = true
  · have HST : Hid (stN l = 1) := Lib.hid (stN_good hg)
    rw [HST.out]
    by_cases hm : mineB l x y z = true
    · obtain ⟨e1, e2, e3⟩ := mine_yes hg hm
      have HR : Hid (stM l x y z = 1 ∧ (∀ k, mfl l x y z k = ofl l k) ∧ mbl l x y z = obl l) := Lib.hid ⟨e1, e2, e3⟩
      obtain ⟨rfl, rfl, rfl⟩ := (mineB_iff hg).1 hm
      clear e1 e2 e3 hg hm
      go_wp2_with fail
      have hrow := five_row HZ.out (.int .i64 (ofl l 0)) (.int .i64 (ofl l 1)) (.int .i64 (ofl l 2)) (.int .i64 (ofl l 3)) (.int .i64 (ofl l 4))
      have hx := five_ext HE.out (Nat.le_refl _) (.int .i64 (ofl l 0)) (.int .i64 (ofl l 1)) (.int .i64 (ofl l 2)) (.int .i64 (ofl l 3)) (.int .i64 (ofl l 4))
      have hby := HB1.out.five HNE.out (.int .i64 (ofl l 0)) (.int .i64 (ofl l 1)) (.int .i64 (ofl l 2)) (.int .i64 (ofl l 3)) (.int .i64 (ofl l 4))
      clear c0 c1 c2 c3 c4 f0 f1 f2 f3 f4
      generalize (((((w1.setCell ⟨w.heap.size, 0, none⟩ (.int .i64 (ofl l 0))).setCell ⟨w.heap.size, 1, none⟩ (.int .i64 (ofl l 1))).setCell ⟨w.heap.size, 2, none⟩ (.int .i64 (ofl l 2))).setCell ⟨w.heap.size, 3, none⟩ (.int .i64 (ofl l 3))).setCell ⟨w.heap.size, 4, none⟩ (.int .i64 (ofl l 4))) = W at *
      generalize hh0 : w.heap.size = h0 at *
      obtain ⟨⟨d0, d1, d2, d3, d4⟩, f0, f1, f2, f3, f4⟩ := five_cells hrow
      have HZ := Lib.hid hrow
      have HE := Lib.hid hx
      have HB1 := Lib.hid hby
      have HN0 := Lib.hid hh0
      clear hh0 hrow hx hby
      go_region_held3 (fun w' => w'.cell? ⟨h0, 0, none⟩ = some (.int .i64 (ofl l 0)) ∧ w'.cell? ⟨h0, 1, none⟩ = some (.int .i64 (ofl l 1)) ∧ w'.cell? ⟨h0, 2, none⟩ = some (.int .i64 (ofl l 2)) ∧ w'.cell? ⟨h0, 3, none⟩ = some (.int .i64 (ofl l 3)) ∧ w'.cell? ⟨h0, 4, none⟩ = some (.int .i64 (ofl l 4)))
        (first | with_reducible exact ⟨d0, d1, d2, d3, d4⟩ | with_reducible exact five_near_drew HZ.out _ _ _ _ _ | go_keep)
        (first | (go_at_call 0; fail))
      have hrow := five_row HZ.out (.int .i64 (ofl l 0)) (.int .i64 (ofl l 1)) (.int .i64 (ofl l 2)) (.int .i64 (ofl l 3)) (.int .i64 (ofl l 4))
      have hx := five_ext HE.out (g := h0) (Nat.le_of_eq HN0.out) (.int .i64 (ofl l 0)) (.int .i64 (ofl l 1)) (.int .i64 (ofl l 2)) (.int .i64 (ofl l 3)) (.int .i64 (ofl l 4))
      have hby := HB1.out.five HNE.out (.int .i64 (ofl l 0)) (.int .i64 (ofl l 1)) (.int .i64 (ofl l 2)) (.int .i64 (ofl l 3)) (.int .i64 (ofl l 4))
      clear d0 d1 d2 d3 d4 f0 f1 f2 f3 f4
      generalize (((((W.setCell ⟨h0, 0, none⟩ (.int .i64 (ofl l 0))).setCell ⟨h0, 1, none⟩ (.int .i64 (ofl l 1))).setCell ⟨h0, 2, none⟩ (.int .i64 (ofl l 2))).setCell ⟨h0, 3, none⟩ (.int .i64 (ofl l 3))).setCell ⟨h0, 4, none⟩ (.int .i64 (ofl l 4))) = V at hrow hx hby ⊢
      obtain ⟨⟨e0, e1, e2, e3, e4⟩, _⟩ := five_cells hrow
      have HB1 := Lib.hid (hby.ext ((Ext.refl V).drew))
      have HX := Lib.hid hx.drew
      clear hrow hx hby
      go_wp2_with fail
      refine bodyPost_ret (v := .tuple #[.int .u8 1, .agg #[.int .i64 (ofl l 0), .int .i64 (ofl l 1), .int .i64 (ofl l 2), .int .i64 (ofl l 3), .int .i64 (ofl l 4)], .slice A1 N N]) ?_ rfl ?_
      · simp [results, Tryz.results205, go_sem, e0, e1, e2, e3, e4]
      · exact ⟨A1, N, by rw [HR.out.1, HR.out.2.1, HR.out.2.1, HR.out.2.1, HR.out.2.1, HR.out.2.1]; rfl, by rw [HR.out.2.2]; exact HB1.out, by rw [HN0.out]; exact HGE.out, HX.out⟩
    · have hm' : mineB l x y z = false := by simpa using hm
      obtain ⟨e1, e2, e3⟩ := mine_no hg hm'
      have HR : Hid (stM l x y z = 2 ∧ (∀ k, mfl l x y z k = 0) ∧ mbl l x y z = []) := Lib.hid ⟨e1, e2, e3⟩
      rw [mineB_iff hg] at hm
      clear e1 e2 e3 hm'
      by_cases h0 : (ofl l 0 : Int) = x
      · by_cases h1 : (ofl l 1 : Int) = y
        · have h2 : ¬ (ofl l 2 : Int) = z := fun h => hm ⟨h0, h1, h⟩
          subst h0; subst h1
          have g2 : ((ofl l 2 : Int) != z) = true := by simpa using h2
          clear hm hg h2
          have hz2 := five_row HZ.out (.int .i64 (ofl l 0)) (.int .i64 (ofl l 1)) (.int .i64 (ofl l 2)) (.int .i64 (ofl l 3)) (.int .i64 (ofl l 4))
          have hz3 := five_row hz2 (.int .i64 0) (.int .i64 0) (.int .i64 0) (.int .i64 0) (.int .i64 0)
          have hx := five_ext HE.out (Nat.le_refl _) (.int .i64 (ofl l 0)) (.int .i64 (ofl l 1)) (.int .i64 (ofl l 2)) (.int .i64 (ofl l 3)) (.int .i64 (ofl l 4))
          have hx3 := five_ext hx (Nat.le_refl _) (.int .i64 0) (.int .i64 0) (.int .i64 0) (.int .i64 0) (.int .i64 0)
          have HZ3 := Lib.hid hz3
          have HX3 := Lib.hid hx3
          clear hz2 hz3 hx hx3
          go_wp2_with fail
          have hz3 := HZ3.out
          have hx3 := HX3.out
          generalize ((((((((((w1.setCell ⟨w.heap.size, 0, none⟩ (.int .i64 (ofl l 0))).setCell ⟨w.heap.size, 1, none⟩ (.int .i64 (ofl l 1))).setCell ⟨w.heap.size, 2, none⟩ (.int .i64 (ofl l 2))).setCell ⟨w.heap.size, 3, none⟩ (.int .i64 (ofl l 3))).setCell ⟨w.heap.size, 4, none⟩ (.int .i64 (ofl l 4))).setCell ⟨w.heap.size, 0, none⟩ (.int .i64 0)).setCell ⟨w.heap.size, 1, none⟩ (.int .i64 0)).setCell ⟨w.heap.size, 2, none⟩ (.int .i64 0)).setCell ⟨w.heap.size, 3, none⟩ (.int .i64 0)).setCell ⟨w.heap.size, 4, none⟩ (.int .i64 0)) = V at hz3 hx3 ⊢
          obtain ⟨⟨e0, e1, e2, e3, e4⟩, _⟩ := five_cells hz3
          refine bodyPost_ret (v := .tuple #[.int .u8 2, .agg #[.int .i64 0, .int .i64 0, .int .i64 0, .int .i64 0, .int .i64 0], .slice none 0 0]) ?_ rfl ?_
          · simp [results, Tryz.results205, go_sem, e0, e1, e2, e3, e4]
          · exact ⟨none, 0, by rw [HR.out.1, HR.out.2.1, HR.out.2.1, HR.out.2.1, HR.out.2.1, HR.out.2.1]; rfl, by rw [HR.out.2.2]; exact By.nil_ _, fun g o hA hN => absurd hN (by omega), hx3⟩
        · subst h0
          have g1 : ((ofl l 1 : Int) != y) = true := by simpa using h1
          clear hm hg h1
          have hz2 := five_row HZ.out (.int .i64 (ofl l 0)) (.int .i64 (ofl l 1)) (.int .i64 (ofl l 2)) (.int .i64 (ofl l 3)) (.int .i64 (ofl l 4))
          have hz3 := five_row hz2 (.int .i64 0) (.int .i64 0) (.int .i64 0) (.int .i64 0) (.int .i64 0)
          have hx := five_ext HE.out (Nat.le_refl _) (.int .i64 (ofl l 0)) (.int .i64 (ofl l 1)) (.int .i64 (ofl l 2)) (.int .i64 (ofl l 3)) (.int .i64 (ofl l 4))
          have hx3 := five_ext hx (Nat.le_refl _) (.int .i64 0) (.int .i64 0) (.int .i64 0) (.int .i64 0) (.int .i64 0)
          have HZ3 := Lib.hid hz3
          have HX3 := Lib.hid hx3
          clear hz2 hz3 hx hx3
          go_wp2_with fail
          have hz3 := HZ3.out
          have hx3 := HX3.out
          generalize ((((((((((w1.setCell ⟨w.heap.size, 0, none⟩ (.int .i64 (ofl l 0))).setCell ⟨w.heap.size, 1, none⟩ (.int .i64 (ofl l 1))).setCell ⟨w.heap.size, 2, none⟩ (.int .i64 (ofl l 2))).setCell ⟨w.heap.size, 3, none⟩ (.int .i64 (ofl l 3))).setCell ⟨w.heap.size, 4, none⟩ (.int .i64 (ofl l 4))).setCell ⟨w.heap.size, 0, none⟩ (.int .i64 0)).setCell ⟨w.heap.size, 1, none⟩ (.int .i64 0)).setCell ⟨w.heap.size, 2, none⟩ (.int .i64 0)).setCell ⟨w.heap.size, 3, none⟩ (.int .i64 0)).setCell ⟨w.heap.size, 4, none⟩ (.int .i64 0)) = V at hz3 hx3 ⊢
          obtain ⟨⟨e0, e1, e2, e3, e4⟩, _⟩ := five_cells hz3
          refine bodyPost_ret (v := .tuple #[.int .u8 2, .agg #[.int .i64 0, .int .i64 0, .int .i64 0, .int .i64 0, .int .i64 0], .slice none 0 0]) ?_ rfl ?_
          · simp [results, Tryz.results205, go_sem, e0, e1, e2, e3, e4]
          · exact ⟨none, 0, by rw [HR.out.1, HR.out.2.1, HR.out.2.1, HR.out.2.1, HR.out.2.1, HR.out.2.1]; rfl, by rw [HR.out.2.2]; exact By.nil_ _, fun g o hA hN => absurd hN (by omega), hx3⟩
      · have g0 : ((ofl l 0 : Int) != x) = true := by simpa using h0
        clear hm hg h0
        have hz2 := five_row HZ.out (.int .i64 (ofl l 0)) (.int .i64 (ofl l 1)) (.int .i64 (ofl l 2)) (.int .i64 (ofl l 3)) (.int .i64 (ofl l 4))
        have hz3 := five_row hz2 (.int .i64 0) (.int .i64 0) (.int .i64 0) (.int .i64 0) (.int .i64 0)
        have hx := five_ext HE.out (Nat.le_refl _) (.int .i64 (ofl l 0)) (.int .i64 (ofl l 1)) (.int .i64 (ofl l 2)) (.int .i64 (ofl l 3)) (.int .i64 (ofl l 4))
        have hx3 := five_ext hx (Nat.le_refl _) (.int .i64 0) (.int .i64 0) (.int .i64 0) (.int .i64 0) (.int .i64 0)
        have HZ3 := Lib.hid hz3
        have HX3 := Lib.hid hx3
        clear hz2 hz3 hx hx3
        go_wp2_with fail
        have hz3 := HZ3.out
        have hx3 := HX3.out
        generalize ((((((((((w1.setCell ⟨w.heap.size, 0, none⟩ (.int .i64 (ofl l 0))).setCell ⟨w.heap.size, 1, none⟩ (.int .i64 (ofl l 1))).setCell ⟨w.heap.size, 2, none⟩ (.int .i64 (ofl l 2))).setCell ⟨w.heap.size, 3, none⟩ (.int .i64 (ofl l 3))).setCell ⟨w.heap.size, 4, none⟩ (.int .i64 (ofl l 4))).setCell ⟨w.heap.size, 0, none⟩ (.int .i64 0)).setCell ⟨w.heap.size, 1, none⟩ (.int .i64 0)).setCell ⟨w.heap.size, 2, none⟩ (.int .i64 0)).setCell ⟨w.heap.size, 3, none⟩ (.int .i64 0)).setCell ⟨w.heap.size, 4, none⟩ (.int .i64 0)) = V at hz3 hx3 ⊢
        obtain ⟨⟨e0, e1, e2, e3, e4⟩, _⟩ := five_cells hz3
        refine bodyPost_ret (v := .tuple #[.int .u8 2, .agg #[.int .i64 0, .int .i64 0, .int .i64 0, .int .i64 0, .int .i64 0], .slice none 0 0]) ?_ rfl ?_
        · simp [results, Tryz.results205, go_sem, e0, e1, e2, e3, e4]
        · exact ⟨none, 0, by rw [HR.out.1, HR.out.2.1, HR.out.2.1, HR.out.2.1, HR.out.2.1, HR.out.2.1]; rfl, by rw [HR.out.2.2]; exact By.nil_ _, fun g o hA hN => absurd hN (by omega), hx3⟩
  · have hg' : goodB l = false := by simpa using hg
    obtain ⟨e1, e2, e3⟩ := mine_bad (x := x) (y := y) (z := z) hg'
    have HR : Hid (stM l x y z = stN l ∧ (∀ k, mfl l x y z k = ofl l k) ∧ mbl l x y z = obl l) := Lib.hid ⟨e1, e2, e3⟩
    have hst : ¬ stN l = 1 := fun h => hg (stN_one.1 h)
    have g0 : ((stN l : Int) == 1) = false := by simp; omega
    clear e1 e2 e3 hg hg' hst
    generalize stN l = st at *
    go_wp2_with fail
    have hrow := five_row HZ.out (.int .i64 (ofl l 0)) (.int .i64 (ofl l 1)) (.int .i64 (ofl l 2)) (.int .i64 (ofl l 3)) (.int .i64 (ofl l 4))
    have hx := five_ext HE.out (Nat.le_refl _) (.int .i64 (ofl l 0)) (.int .i64 (ofl l 1)) (.int .i64 (ofl l 2)) (.int .i64 (ofl l 3)) (.int .i64 (ofl l 4))
    have hby := HB1.out.five HNE.out (.int .i64 (ofl l 0)) (.int .i64 (ofl l 1)) (.int .i64 (ofl l 2)) (.int .i64 (ofl l 3)) (.int .i64 (ofl l 4))
    clear c0 c1 c2 c3 c4 f0 f1 f2 f3 f4
    generalize (((((w1.setCell ⟨w.heap.size, 0, none⟩ (.int .i64 (ofl l 0))).setCell ⟨w.heap.size, 1, none⟩ (.int .i64 (ofl l 1))).setCell ⟨w.heap.size, 2, none⟩ (.int .i64 (ofl l 2))).setCell ⟨w.heap.size, 3, none⟩ (.int .i64 (ofl l 3))).setCell ⟨w.heap.size, 4, none⟩ (.int .i64 (ofl l 4))) = W at *
    generalize hh0 : w.heap.size = h0 at *
    obtain ⟨⟨d0, d1, d2, d3, d4⟩, f0, f1, f2, f3, f4⟩ := five_cells hrow
    have HZ := Lib.hid hrow
    have HE := Lib.hid hx
    have HB1 := Lib.hid hby
    have HN0 := Lib.hid hh0
    clear hh0 hrow hx hby
    go_region_held3 (fun w' => w'.cell? ⟨h0, 0, none⟩ = some (.int .i64 (ofl l 0)) ∧ w'.cell? ⟨h0, 1, none⟩ = some (.int .i64 (ofl l 1)) ∧ w'.cell? ⟨h0, 2, none⟩ = some (.int .i64 (ofl l 2)) ∧ w'.cell? ⟨h0, 3, none⟩ = some (.int .i64 (ofl l 3)) ∧ w'.cell? ⟨h0, 4, none⟩ = some (.int .i64 (ofl l 4)))
      (first | with_reducible exact ⟨d0, d1, d2, d3, d4⟩ | with_reducible exact five_near_drew HZ.out _ _ _ _ _ | go_keep)
      (first | (go_at_call 0; fail))
    have hrow := five_row HZ.out (.int .i64 (ofl l 0)) (.int .i64 (ofl l 1)) (.int .i64 (ofl l 2)) (.int .i64 (ofl l 3)) (.int .i64 (ofl l 4))
    have hx := five_ext HE.out (g := h0) (Nat.le_of_eq HN0.out) (.int .i64 (ofl l 0)) (.int .i64 (ofl l 1)) (.int .i64 (ofl l 2)) (.int .i64 (ofl l 3)) (.int .i64 (ofl l 4))
    have hby := HB1.out.five HNE.out (.int .i64 (ofl l 0)) (.int .i64 (ofl l 1)) (.int .i64 (ofl l 2)) (.int .i64 (ofl l 3)) (.int .i64 (ofl l 4))
    clear d0 d1 d2 d3 d4 f0 f1 f2 f3 f4
    generalize (((((W.setCell ⟨h0, 0, none⟩ (.int .i64 (ofl l 0))).setCell ⟨h0, 1, none⟩ (.int .i64 (ofl l 1))).setCell ⟨h0, 2, none⟩ (.int .i64 (ofl l 2))).setCell ⟨h0, 3, none⟩ (.int .i64 (ofl l 3))).setCell ⟨h0, 4, none⟩ (.int .i64 (ofl l 4))) = V at hrow hx hby ⊢
    obtain ⟨⟨e0, e1, e2, e3, e4⟩, _⟩ := five_cells hrow
    have HB1 := Lib.hid (hby.ext ((Ext.refl V).drew))
    have HX := Lib.hid hx.drew
    clear hrow hx hby
    go_wp2_with fail
    refine bodyPost_ret (v := .tuple #[.int .u8 st, .agg #[.int .i64 (ofl l 0), .int .i64 (ofl l 1), .int .i64 (ofl l 2), .int .i64 (ofl l 3), .int .i64 (ofl l 4)], .slice A1 N N]) ?_ rfl ?_
    · simp [results, Tryz.results205, go_sem, e0, e1, e2, e3, e4]
    · exact ⟨A1, N, by rw [HR.out.1, HR.out.2.1, HR.out.2.1, HR.out.2.1, HR.out.2.1, HR.out.2.1], by rw [HR.out.2.2]; exact HB1.out, by rw [HN0.out]; exact HGE.out, HX.out⟩
end
section
def DM.cb (m : DM) (g p : Int) : List Nat := (m.read (firstS g p)).1
def DM.putC (m : DM) (s : Int) (L : List Nat) : Int × DM := if (m.write s L).1 ≠ 0 then m.write s L else (m.write s L).2.flush
end
section
set_option maxRecDepth 100000
end
section
def DM.hold (m : DM) (s : Nat) : List Nat := if m.lost.getD s false = true then [] else m.rest.getD s []
structure CB (m : DM) (w : List (Nat × List Nat)) : Prop where
  ok : m.Ok
  size : m.size = 156
  waits : m.waits = w
  down : m.down = false
structure CD (m : DM) (pw : Int) : Prop where
  b : CB m []
  dead : m.dead = false
  power : m.power = pw
theorem CD.up {m : DM} {pw : Int} (h : CD m pw) : m.up = true := by unfold DM.up; rw [h.b.down, h.dead]; rfl
theorem CD.has {m : DM} {pw : Int} (h : CD m pw) {s : Nat} (hs : s < 156) : m.has (s : Int) = true := DM.has_iff.2 ⟨by omega, by rw [h.b.size]; omega⟩
theorem CD.read {m : DM} {pw : Int} (h : CD m pw) {s : Nat} (hs : s < 156) : (m.read (s : Int)).1 = m.hold s := by
  unfold DM.read DM.hold
  rw [if_neg (by rw [h.up]; simp), if_neg (by rw [h.has hs]; simp), h.b.waits, Int.toNat_natCast]
  simp only [lastW]
  split <;> rfl
theorem CD.new : CD (DM.new 156) (-1) := ⟨⟨DM.new_ok 156, by simp [DM.new, DM.size], rfl, rfl⟩, rfl, rfl⟩
theorem getD_rep {α : Type} {n s : Nat} {x d : α} (h : s < n) : (List.replicate n x).getD s d = x := by rw [List.getD_eq_getElem?_getD, List.getElem?_replicate, if_pos h]; rfl
theorem new_hold {s : Nat} (hs : s < 156) : (DM.new 156).hold s = z64 := by
  unfold DM.hold DM.new
  rw [if_neg (by rw [getD_rep hs]; simp), getD_rep hs]
theorem hold_comes {m : DM} (h : m.Ok) {l : List (Nat × List Nat)} (hl : ∀ x ∈ l, x.1 < m.size) (t : Nat) : (m.comes l).hold t = (lastW l t).getD (m.hold t) := by
  obtain ⟨h1, _, h3⟩ := comes_get l m h hl t
  unfold DM.hold
  rw [h1, h3]
  cases lastW l t <;> simp
section
variable {m : DM} {pw : Int} {s : Nat} {L : List Nat}
theorem CD.write1 (h : CD m pw) (hp : pw ≠ 0) (hs : s < 156) (hL : Sect L) : m.write (s : Int) L = (0, { m with power := lessP pw, waits := [(s, L)] }) := by
  unfold DM.write
  rw [if_neg (by rw [h.up]; simp), if_neg (by rw [h.has hs, hL.1]; simp), if_neg (by rw [h.power]; exact hp), h.power, h.b.waits, Int.toNat_natCast]
  rfl
theorem CD.waiting (h : CD m pw) (hs : s < 156) (hL : Sect L) (q : Int) (hq : -1 ≤ q) : ({ m with power := q, waits := [(s, L)] } : DM).Ok :=
  ⟨h.b.ok.meant, h.b.ok.lost, h.b.ok.rests, h.b.ok.means, fun x hx => by
    simp only [List.mem_singleton] at hx
    subst hx
    exact ⟨by show s < m.size; rw [h.b.size]; exact hs, hL⟩, hq⟩
theorem CD.put2 (h : CD m pw) (hp : pw = -1 ∨ 2 ≤ pw) (hs : s < 156) (hL : Sect L) : ∃ m', m.putC (s : Int) L = (0, m') ∧ CD m' (lessP (lessP pw)) ∧ ∀ t, m'.hold t = if t = s then L else m.hold t := by
  have hp1 : lessP pw = -1 ∨ 1 ≤ lessP pw := by unfold lessP; split <;> omega
  have hu : ({ m with power := lessP pw, waits := [(s, L)] } : DM).up = true := by unfold DM.up; show (!(m.down || m.dead)) = true; rw [h.b.down, h.dead]; rfl
  have hok := h.waiting hs hL (lessP pw) (by omega)
  have hok2 : ({ m with power := lessP (lessP pw), waits := [(s, L)] } : DM).Ok := h.waiting hs hL _ (by unfold lessP at hp1 ⊢; omega)
  obtain ⟨w1, w2, w3, w4⟩ := DM.comes_waits [(s, L)] ({ m with power := lessP (lessP pw), waits := [(s, L)] } : DM)
  refine ⟨{ ({ m with power := lessP (lessP pw), waits := [(s, L)] } : DM).comes [(s, L)] with waits := [] }, ?_, ⟨⟨?_, ?_, rfl, ?_⟩, ?_, ?_⟩, fun t => ?_⟩
  · unfold DM.putC
    rw [h.write1 (by omega) hs hL, if_neg (by simp)]
    unfold DM.flush
    rw [if_neg (by rw [hu]; simp), if_neg (by show ¬ lessP pw = 0; omega)]
  · exact DM.clear_ok (DM.comes_ok _ hok2 fun x hx => (hok2.waits x hx).2)
  · show (DM.comes _ _).size = 156
    rw [DM.comes_size]
    exact h.b.size
  · exact w2.trans h.b.down
  · exact w3.trans h.dead
  · exact w4
  · show (DM.comes _ _).hold t = _
    rw [hold_comes hok2 (fun x hx => (hok2.waits x hx).1)]
    show ((none : Option (List Nat)).or (if s = t then some L else none)).getD _ = _
    by_cases hst : s = t
    · subst hst; simp
    · rw [if_neg hst, if_neg (fun e => hst e.symm)]; rfl
theorem CB.again {w : List (Nat × List Nat)} (h : CB m w) (k : List Bool) : (m.crash k).1 = 0 ∧ (m.crash k).2.start.1 = 0 ∧ CD (m.crash k).2.start.2 (-1) ∧ ∀ t, (m.crash k).2.start.2.hold t = (lastW (kept w k) t).getD (m.hold t) := by
  have hc : m.crash k = (0, { m.comes (kept m.waits k) with waits := [], down := true }) := by unfold DM.crash; rw [if_neg (by rw [h.down]; simp)]
  have hs : ({ m.comes (kept m.waits k) with waits := [], down := true } : DM).start = (0, { ({ m.comes (kept m.waits k) with waits := [], down := true } : DM) with down := false, dead := false, power := -1 }) := by unfold DM.start; rw [if_neg (by simp)]
  have hok := DM.start_ok (DM.crash_ok h.ok k)
  have hl : ∀ x ∈ kept m.waits k, x.1 < m.size := fun x hx => (h.ok.waits x (kept_mem hx)).1
  rw [hc] at hok ⊢
  rw [hs] at hok ⊢
  refine ⟨rfl, rfl, ⟨⟨hok, ?_, rfl, rfl⟩, rfl, rfl⟩, fun t => ?_⟩
  · show (m.comes _).size = 156
    rw [DM.comes_size]
    exact h.size
  · show (m.comes (kept m.waits k)).hold t = _
    rw [hold_comes h.ok hl, h.waits]
end
section
variable {m : DM} {pw : Int} {a b : Nat} {La Lb : List Nat}
end
end
section
def hurtsIn (h : Int → Bool) (a : Int) (n : Nat) : List Int := ((List.range n).map fun k => a + ((k : Nat) : Int)).filter h
theorem hurtsIn_mem {h : Int → Bool} {a : Int} {n : Nat} {s : Int} : s ∈ hurtsIn h a n ↔ h s = true ∧ a ≤ s ∧ s < a + n := by
  unfold hurtsIn
  rw [List.mem_filter, List.mem_map]
  constructor
  · rintro ⟨⟨k, hk, rfl⟩, hh⟩
    rw [List.mem_range] at hk
    exact ⟨hh, by omega, by omega⟩
  · rintro ⟨hh, h1, h2⟩
    exact ⟨⟨(s - a).toNat, by rw [List.mem_range]; omega, by omega⟩, hh⟩
def anyIn (h : Int → Bool) (a : Int) (n : Nat) : Bool := (List.range n).any fun k => h (a + ((k : Nat) : Int))
theorem anyIn_iff {h : Int → Bool} {a : Int} {n : Nat} : anyIn h a n = true ↔ ∃ s, h s = true ∧ a ≤ s ∧ s < a + n := by
  unfold anyIn
  rw [List.any_eq_true]
  constructor
  · rintro ⟨k, hk, hh⟩
    rw [List.mem_range] at hk
    exact ⟨_, hh, by omega, by omega⟩
  · rintro ⟨s, hh, h1, h2⟩
    refine ⟨(s - a).toNat, by rw [List.mem_range]; omega, ?_⟩
    rw [show a + (((s - a).toNat : Nat) : Int) = s by omega]
    exact hh
theorem anyIn_zero (h : Int → Bool) (a : Int) : anyIn h a 0 = false := rfl
theorem anyIn_succ (h : Int → Bool) (a : Int) (n : Nat) : anyIn h a (n + 1) = (anyIn h a n || h (a + (n : Int))) := by
  unfold anyIn
  rw [List.range_succ, List.any_append]
  simp
end
section
open Go Go.RowKit
theorem sectors_any (p q : Nat) (w : World) (h : p * q ≤ 9000000000000000000) :
    Calls Tryz.prog 210 #[.agg #[.int .i64 p, .int .i64 q]] w fun e w' => e = .returned (.int .i64 (p * q : Nat)) ∧ Ext w w' := by
  have h' : ((p : Int) * (q : Int)) = ((p * q : Nat) : Int) := by simp
  have HM := Lib.hid h'
  have h0 : (0 : Int) ≤ (p : Int) * (q : Int) := by rw [h']; omega
  have h1 : (p : Int) * (q : Int) ≤ 9000000000000000000 := by rw [h']; omega
  clear h h'
  go_enter Tryz.func210, Tryz.ntmps210
  go_wp2
  go_ret
  exact ⟨by rw [← HM.out]; rfl, (Ext.refl w).alloc _⟩
theorem wide_any (r : Int) (w : World) (hL : LaidT w) :
    Calls Tryz.prog 131 #[.int .i64 r] w fun e w' => e = .returned (.int .i64 (wid r)) ∧ Ext w w' := by
  have HL := Lib.hid hL
  have hf := area_field1
  clear hL
  go_enter Tryz.func131, Tryz.ntmps131
  go_wp2_with fail
  refine (find_any r _ HL.out).mono ?_
  rintro e w1 ⟨rfl, hx⟩
  have HX := Lib.hid hx
  clear hx
  go_wp2_with fail
  go_ret
  exact ⟨rfl, HX.out⟩
end
section
open Go Go.RowKit
set_option maxHeartbeats 800000 in
theorem start_any (r : Nat) (w : World) (hL : LaidT w) (hr : r ≤ 6) :
    Calls Tryz.prog 135 #[.int .i64 r] w fun e w' => e = .returned (.int .i64 (beg r)) ∧ Ext w w' := by
  have HL := Lib.hid hL
  clear hL
  go_enter Tryz.func135, Tryz.ntmps135
  go_wp2_with fail
  go_loopw [3, 6] (fun b i wr => ∃ k : Nat, k ≤ r ∧ i = .int .i64 k ∧ b = .int .i64 (beg k) ∧ Hid (Ext w wr)) (fun _ i _ => r - (intOf i).toNat)
  case atStart => exact ⟨0, Nat.zero_le _, rfl, rfl, Lib.hid (Ext.refl w)⟩
  case round =>
    obtain ⟨k, hk, rfl, rfl, HX⟩ := hrel
    by_cases hlt : k < r
    · have HB := Lib.hid (beg_next k (by omega))
      have hb := beg_le k
      have hp := plc_wid k
      go_wp2_with fail
      refine (find_any k _ (HL.out.ext HX.out)).mono ?_
      rintro e w1 ⟨rfl, hx⟩
      have HX := Lib.hid (HX.out.trans hx)
      clear hx
      go_wp2_with fail
      refine (sectors_any _ _ _ (by omega)).mono ?_
      rintro e w2 ⟨rfl, hx⟩
      have HX := Lib.hid (HX.out.trans hx)
      clear hx
      go_wp2_with fail
      go_roundw
      case rel => exact ⟨k + 1, by omega, by go_num, by rw [show ((k + 1 : Nat) : Int) = (k : Int) + 1 from rfl, HB.out]; go_num, HX⟩
      case measure => simp [intOf]; omega
    · have HK : Hid (k = r) := Lib.hid (by omega)
      go_wp2_with fail
      go_ret
      exact ⟨by rw [HK.out]; rfl, HX.out⟩
theorem all_any (w : World) (hL : LaidT w) :
    Calls Tryz.prog 61 #[] w fun e w' => e = .returned (.int .i64 156) ∧ Ext w w' := by
  have HL := Lib.hid hL
  clear hL
  go_enter Tryz.func61, Tryz.ntmps61
  go_wp2_with fail
  refine (start_any 6 _ HL.out (by omega)).mono ?_
  rintro e w1 ⟨rfl, hx⟩
  have HX := Lib.hid hx
  clear hx
  go_wp2_with fail
  go_ret
  exact ⟨rfl, HX.out⟩
theorem first_any (r p : Int) (w : World) (hL : LaidT w) :
    Calls Tryz.prog 58 #[.int .i64 r, .int .i64 p] w fun e w' => e = .returned (.int .i64 (firstS r p)) ∧ Ext w w' := by
  have HL := Lib.hid hL
  clear hL
  by_cases h0 : p < 0
  · have HF := Lib.hid (firstS_no (r := r) (p := p) (by omega))
    go_enter Tryz.func58, Tryz.ntmps58
    go_wp2_with fail
    go_ret
    exact ⟨by rw [HF.out]; rfl, Ext.refl w⟩
  by_cases h1 : (plc r : Int) ≤ p
  · have HF := Lib.hid (firstS_no (r := r) (p := p) (by omega))
    go_enter Tryz.func58, Tryz.ntmps58
    go_wp2_with fail
    refine (places_any r _ HL.out).mono ?_
    rintro e w1 ⟨rfl, hx⟩
    have HX := Lib.hid hx
    clear hx
    go_wp2_with fail
    go_ret
    exact ⟨by rw [HF.out]; rfl, HX.out⟩
  have hr := plc_some (r := r) (by omega)
  obtain ⟨r, rfl⟩ := Int.eq_ofNat_of_zero_le (show 0 ≤ r by omega)
  have HF := Lib.hid (firstS_yes (r := r) (p := p) (by omega))
  have hb := beg_le r
  have hpl := plc_le r
  have hw0 := wid_le r
  have h2 : 0 ≤ p * (wid r : Int) := Int.mul_nonneg (by omega) (by omega)
  have h3 : p * (wid r : Int) ≤ 48 * 2 := Int.mul_le_mul (by omega) (by omega) (by omega) (by omega)
  go_enter Tryz.func58, Tryz.ntmps58
  go_wp2_with fail
  refine (places_any r _ HL.out).mono ?_
  rintro e w1 ⟨rfl, hx⟩
  have HX := Lib.hid hx
  clear hx
  go_wp2_with fail
  refine (start_any r _ (HL.out.ext HX.out) (by omega)).mono ?_
  rintro e w2 ⟨rfl, hx⟩
  have HX := Lib.hid (HX.out.trans hx)
  clear hx
  go_wp2_with fail
  refine (wide_any r _ (HL.out.ext HX.out)).mono ?_
  rintro e w3 ⟨rfl, hx⟩
  have HX := Lib.hid (HX.out.trans hx)
  clear hx
  go_wp2_with fail
  go_ret
  exact ⟨by rw [HF.out]; rfl, HX.out⟩
end
section
open Go Go.RowKit Go.ChangeShapes Go.WideShapes Go.Deep
structure Act6 where
  sl : Bool := false
  ta : Int := 0
  tb : Int := 0
  tc : Int := 0
  td : Int := 0
  te : Int := 0
  bA : Option Addr := none
  bn : Nat := 0
  bc : Nat := 0
  bl : List Nat := []
  act : Act5 := {}
instance : Inhabited Act6 := ⟨{}⟩
def Act6.cells (x : Act6) : List Value := [.bool x.sl, .int .i64 x.ta, .int .i64 x.tb, .int .i64 x.tc, .int .i64 x.td, .int .i64 x.te, .slice x.bA x.bn x.bc, .int .u8 (x.act.kind : Int), .int .i64 x.act.sec, .int .i64 x.act.num, .slice x.act.bA x.act.bn x.act.bc, .slice x.act.kA x.act.kn x.act.kc]
structure Act6.Ok (x : Act6) (w : World) (B : Nat) : Prop where
  body : Bs w B x.bA x.bn x.bc x.bl
  act : x.act.Ok w B
structure Acts6 (w : World) (B : Nat) (A : Option Addr) (n c : Nat) (l : List Act6) : Prop where
  len : l.length = n
  cap : n ≤ c
  most : c ≤ 9223372036854775807
  each : ∀ a ∈ l, a.Ok w B
  rd : 0 < n → ∃ g o, A = some ⟨g, o, none⟩ ∧ g < B ∧ ∀ j a, l[j]? = some a → ∀ k v, a.cells[k]? = some v → w.cell? ⟨g, o + (j * 12 + k), none⟩ = some v
  nil_ : A = none → c = 0
def Cells12 (w : World) (g o : Nat) (x : Act6) : Prop :=
  w.cell? ⟨g, o, none⟩ = some (.bool x.sl) ∧ w.cell? ⟨g, o + 1, none⟩ = some (.int .i64 x.ta) ∧ w.cell? ⟨g, o + 2, none⟩ = some (.int .i64 x.tb) ∧ w.cell? ⟨g, o + 3, none⟩ = some (.int .i64 x.tc) ∧ w.cell? ⟨g, o + 4, none⟩ = some (.int .i64 x.td) ∧ w.cell? ⟨g, o + 5, none⟩ = some (.int .i64 x.te) ∧
  w.cell? ⟨g, o + 6, none⟩ = some (.slice x.bA x.bn x.bc) ∧ w.cell? ⟨g, o + 7, none⟩ = some (.int .u8 (x.act.kind : Int)) ∧ w.cell? ⟨g, o + 8, none⟩ = some (.int .i64 x.act.sec) ∧ w.cell? ⟨g, o + 9, none⟩ = some (.int .i64 x.act.num) ∧
  w.cell? ⟨g, o + 10, none⟩ = some (.slice x.act.bA x.act.bn x.act.bc) ∧ w.cell? ⟨g, o + 11, none⟩ = some (.slice x.act.kA x.act.kn x.act.kc)
theorem Acts6.at_ {w : World} {B : Nat} {A : Option Addr} {n c : Nat} {l : List Act6} (h : Acts6 w B A n c l) {j : Nat} (hj : j < n) : ∃ g o a, A = some ⟨g, o, none⟩ ∧ g < B ∧ l[j]? = some a ∧ a.Ok w B ∧ Cells12 w g (o + j * 12) a := by
  obtain ⟨g, o, e, hg, hc⟩ := h.rd (by omega)
  have hj' : j < l.length := by rw [h.len]; exact hj
  have ha : l[j]? = some l[j] := List.getElem?_eq_getElem hj'
  have cell := fun (k : Nat) (v : Value) (hv : (l[j]).cells[k]? = some v) => hc j _ ha k v hv
  exact ⟨g, o, l[j], e, hg, ha, h.each _ (List.getElem_mem hj'), cell 0 _ rfl, cell 1 _ rfl, cell 2 _ rfl, cell 3 _ rfl, cell 4 _ rfl, cell 5 _ rfl, cell 6 _ rfl, cell 7 _ rfl, cell 8 _ rfl, cell 9 _ rfl, cell 10 _ rfl, cell 11 _ rfl⟩
section
variable {H : Type} {enc : TypeId × Value → H} {P : Program} {w : World} {base : Nat} {spare : Nat → Bool} {held : Bool}
end
end
section
open Go Go.RowKit
structure DK (w0 w : World) (d : Nat) (F : Nat → Prop) (m : DM) : Prop where
  disk : PDisk w d F m
  low : ∀ k, F k → w0.heap.size ≤ k
  bel : Ext w0 w
theorem DK.ext {w0 w w' : World} {d : Nat} {F : Nat → Prop} {m : DM} (h : DK w0 w d F m) (k : Ext w w') : DK w0 w' d F m := ⟨h.disk.ext k, h.low, h.bel.trans k⟩
theorem DK.step {w0 w w' : World} {d : Nat} {F : Nat → Prop} {m m' : DM} (h : DK w0 w d F m) (hp : PDisk w' d (grow F w w') m') (hm : Mod F w w') : DK w0 w' d (grow F w w') m' :=
  ⟨hp, fun k hk => hk.elim (h.low k) fun h2 => Nat.le_trans h.bel.size h2.1, Below.mod h.bel hm h.bel.size h.low⟩
theorem DK.mod {w0 w w' : World} {d : Nat} {F G : Nat → Prop} {m : DM} (h : DK w0 w d F m) (hm : Mod G w w') (hG : ∀ k, F k → ¬ G k) (hl : ∀ k, G k → w0.heap.size ≤ k) : DK w0 w' d F m :=
  ⟨h.disk.mod hm hG, h.low, Below.mod h.bel hm h.bel.size hl⟩
theorem DK.old {w0 w : World} {d : Nat} {F : Nat → Prop} {m : DM} (h : DK w0 w d F m) {A : Option Addr} (hA : ∀ p, A = some p → p.block < w0.heap.size) : Off F A := fun p hp hf => by
  have := hA p hp
  have := h.low _ hf
  omega
end
section
open Go Go.RowKit
theorem u8_size (w : World) : (sizeOf (Tryz.prog.elem 45)).run Tryz.prog w = .ok 1 w := by
  have ht : Tryz.prog.elem 45 = 5 := by kernel_rfl
  obtain ⟨i0, hi, _, hz1, _⟩ := info_parts byte_info
  rw [ht]
  simp [Go.sizeOf, typeInfo, hi, hz1]
theorem cut_mid (g o n cp l h : Nat) (hl : l < cp) (hlh : l ≤ h) (hh : h ≤ cp) (w : World) : (Instr.slice 45 (.slice (some ⟨g, o, none⟩) n cp) (some (.int .i64 (l : Int))) (some (.int .i64 (h : Int))) none).run Tryz.prog w = .ok (.slice (some ⟨g, o + l, none⟩) (h - l) (cp - l)) w := by
  have ht : Tryz.prog.elem 45 = 5 := by kernel_rfl
  rw [run_slice_lh w 45 (some ⟨g, o, none⟩) n cp (by rw [ht]; exact Tryz.underlying45) .i64 .i64 (l : Int) (h : Int) (by omega) (by omega) (by omega), u8_size]
  simp only [Result.andThen, sliced, Int.toNat_natCast, Nat.mul_one]
  rw [if_neg (by omega)]
  simp [Addr.add]
end
section
open Go Go.RowKit
theorem sealE_zero {a b c d e s : Int} {n : Nat} : sealE a b c d e n s = 0 ↔ roomN s ≠ 0 ∧ mayB a b c d e = true ∧ n ≤ roomN s := by
  constructor
  · intro h
    by_cases h1 : roomN s = 0 ∨ mayB a b c d e = false
    · rw [sealE_arg h1] at h; cases h
    · have h0 : roomN s ≠ 0 := fun hh => h1 (.inl hh)
      have hm : mayB a b c d e = true := by
        by_cases hm : mayB a b c d e = true
        · exact hm
        · exact absurd (.inr (by simpa using hm)) h1
      refine ⟨h0, hm, ?_⟩
      rcases Nat.lt_or_ge (roomN s) n with h2 | h2
      · rw [sealE_long h0 hm h2] at h; cases h
      · exact h2
  · rintro ⟨h0, hm, hn⟩
    exact sealE_yes h0 hm hn
theorem sealL_len {a b c d e s : Int} {body : List Nat} (h : sealE a b c d e body.length s = 0) : (sealL a b c d e body s).length = 64 * s.toNat ∧ 1 ≤ s ∧ s ≤ 2 := by
  obtain ⟨h0, hm, hn⟩ := sealE_zero.1 h
  obtain ⟨S, rfl⟩ := Int.eq_ofNat_of_zero_le (show 0 ≤ s by have := roomN_pos (s := s) (by omega); omega)
  have hfit := room_fits hn (by omega)
  rw [sealL_yes h, Int.toNat_natCast, frameL_len (by rw [pl_yes hm, tagBytes_len]) (by omega) (by omega)]
  omega
theorem sealL_good {a b c d e s : Int} {body : List Nat} (h : sealE a b c d e body.length s = 0) : goodB (sealL a b c d e body s) = true ∧ obl (sealL a b c d e body s) = body ∧ (ofl (sealL a b c d e body s) 0 : Int) = a ∧ (ofl (sealL a b c d e body s) 1 : Int) = b ∧ (ofl (sealL a b c d e body s) 2 : Int) = c ∧ (ofl (sealL a b c d e body s) 3 : Int) = d ∧ (ofl (sealL a b c d e body s) 4 : Int) = e := by
  obtain ⟨h0, hm, hn⟩ := sealE_zero.1 h
  obtain ⟨S, rfl⟩ := Int.eq_ofNat_of_zero_le (show 0 ≤ s by have := roomN_pos (s := s) (by omega); omega)
  obtain ⟨a, b, c, d, e, rfl, rfl, rfl, rfl, rfl⟩ := may_nat hm
  have hb88 := roomN_le (S : Int)
  rw [sealL_yes h, Int.toNat_natCast, pl_yes hm]
  simp only [Int.toNat_natCast]
  have hg := seal_good (S := S) hm hn (by omega)
  have hr := (PV_tag hm).2
  rw [ofl_yes hg, ofl_yes hg, ofl_yes hg, ofl_yes hg, ofl_yes hg, obl_yes hg, read_tag (tagBytes_len a b c d e), read_body (tagBytes_len a b c d e) (by omega), hr 0 (by omega), hr 1 (by omega), hr 2 (by omega), hr 3 (by omega), hr 4 (by omega)]
  exact ⟨hg, rfl, rfl, rfl, rfl, rfl, rfl⟩
theorem sealL_lt {a b c d e s : Int} {body : List Nat} (hb : ∀ x ∈ body, x < 256) : ∀ x ∈ sealL a b c d e body s, x < 256 := by
  by_cases h : sealE a b c d e body.length s = 0
  · rw [sealL_yes h]
    refine frameL_lt hb ?_
    rw [pl_yes (sealE_zero.1 h).2.1]
    exact tagBytes_lt _ _ _ _ _
  · rw [sealL_no h]
    simp
end
section
open Go Go.RowKit
theorem By.piece {w : World} {g o n c : Nat} {l : List Nat} (h : By w (some ⟨g, o, none⟩) n c l) (k : Nat) (hk : k + 64 ≤ n) : By w (some ⟨g, o + k, none⟩) 64 (c - k) ((l.drop k).take 64) := by
  have hl := h.len
  have hc := h.cap
  refine ⟨by rw [List.length_take, List.length_drop]; omega, by omega, by have := h.most; omega, (h.rd.drop rfl k).take 64, fun e => by cases e⟩
theorem firstS_in (g p : Int) : -1 ≤ firstS g p ∧ firstS g p ≤ 156 := by
  have h1 := beg_le g
  have h2 := wid_le g
  by_cases hh : 0 ≤ p ∧ p < plc g
  · rw [firstS_yes hh]
    have hr := plc_some (r := g) (by omega)
    rcases region_cases hr with rfl | rfl | rfl | rfl | rfl <;> simp [beg, plc, wid] at hh ⊢ <;> omega
  · rw [firstS_no hh]; omega
end
end Go.Proofs.YtmbmpabjclkhlaaGreatDoor
