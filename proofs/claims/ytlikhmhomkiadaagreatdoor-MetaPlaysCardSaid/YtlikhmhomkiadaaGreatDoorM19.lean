/-
  The contract of the frame's Mine.
  The contract of the document's own shifting of a bit.
  The contracts of the document's own checksum: bytes.
  The contract of the document's own Seal.
  The contract of the frame statements' own first look at the chapter's examples: it answers true and writes nothing that was there.
-/
import Derived.Test.YtlikhmhomkiadaaGreatDoorM01
import Derived.Test.YtlikhmhomkiadaaGreatDoorM08
import Derived.Test.YtlikhmhomkiadaaGreatDoorM10
import Derived.Test.YtlikhmhomkiadaaGreatDoorM11
import Derived.Test.YtlikhmhomkiadaaGreatDoorM18
import Derived.Test.YtlikhmhomkiadaaGreatDoorProg
import Derived.WalkKit
import Derived.WalkSpells
import Derived.BigQuiet
import Derived.Lib.Hide
import Derived.Laws.BitsAllLaws
import Derived.Deep.RegionHeld3
namespace Go.Proofs.YtlikhmhomkiadaaGreatDoor
set_option maxRecDepth 100000
open Go Go.RowKit

/-- What Mine answers. -/
def mineB (l : List Nat) (x y z : Int) : Bool := goodB l && (decide ((ofl l 0 : Int) = x) && (decide ((ofl l 1 : Int) = y) && decide ((ofl l 2 : Int) = z)))
def stM (l : List Nat) (x y z : Int) : Nat := if goodB l = true then (if mineB l x y z = true then 1 else 2) else stN l
def mfl (l : List Nat) (x y z : Int) (k : Nat) : Nat := if mineB l x y z = true then ofl l k else 0
def mbl (l : List Nat) (x y z : Int) : List Nat := if mineB l x y z = true then obl l else []
theorem mineB_bad {l : List Nat} {x y z : Int} (h : goodB l = false) : mineB l x y z = false := by unfold mineB; rw [h]; rfl
theorem mine_bad {l : List Nat} {x y z : Int} (h : goodB l = false) : stM l x y z = stN l ∧ (∀ k, mfl l x y z k = ofl l k) ∧ mbl l x y z = obl l := by
  refine ⟨by unfold stM; rw [if_neg (by rw [h]; simp)], fun k => ?_, ?_⟩
  · unfold mfl; rw [if_neg (by rw [mineB_bad h]; simp), ofl_no h]
  · unfold mbl; rw [if_neg (by rw [mineB_bad h]; simp), obl_no h]
theorem mine_yes {l : List Nat} {x y z : Int} (h : goodB l = true) (hm : mineB l x y z = true) : stM l x y z = 1 ∧ (∀ k, mfl l x y z k = ofl l k) ∧ mbl l x y z = obl l := by
  refine ⟨by unfold stM; rw [if_pos h, if_pos hm], fun k => ?_, ?_⟩
  · unfold mfl; rw [if_pos hm]
  · unfold mbl; rw [if_pos hm]
theorem mine_no {l : List Nat} {x y z : Int} (h : goodB l = true) (hm : mineB l x y z = false) : stM l x y z = 2 ∧ (∀ k, mfl l x y z k = 0) ∧ mbl l x y z = [] := by
  refine ⟨by unfold stM; rw [if_pos h, if_neg (by rw [hm]; simp)], fun k => ?_, ?_⟩
  · unfold mfl; rw [if_neg (by rw [hm]; simp)]
  · unfold mbl; rw [if_neg (by rw [hm]; simp)]
theorem mineB_iff {l : List Nat} {x y z : Int} (h : goodB l = true) : mineB l x y z = true ↔ (ofl l 0 : Int) = x ∧ (ofl l 1 : Int) = y ∧ (ofl l 2 : Int) = z := by
  unfold mineB
  rw [h]
  simp

theorem By.far {W V : World} {A : Option Addr} {n c h0 : Nat} {l : List Nat} (h : By W A n c l) (hne : ∀ g o, A = some ⟨g, o, none⟩ → 0 < n → h0 ≠ g) (hk : ∀ g k, h0 ≠ g → V.cell? ⟨g, k, none⟩ = W.cell? ⟨g, k, none⟩) (hs : W.heap.size ≤ V.heap.size) : By V A n c l := by
  refine ⟨h.len, h.cap, h.most, ⟨h.rd.lt, fun hn => ?_⟩, Bs.nil_ h⟩
  obtain ⟨g, o, e, hg, hc⟩ := h.rd.2 hn
  have hne' := hne g o e (by have := h.len; omega)
  exact ⟨g, o, e, by omega, fun j x hx => (hk g (o + j) hne').trans (hc j x hx)⟩
theorem five_size (w : World) (g : Nat) (x0 x1 x2 x3 x4 : Value) : w.heap.size ≤ (((((w.setCell ⟨g, 0, none⟩ x0).setCell ⟨g, 1, none⟩ x1).setCell ⟨g, 2, none⟩ x2).setCell ⟨g, 3, none⟩ x3).setCell ⟨g, 4, none⟩ x4).heap.size := by
  simp [World.setCell]
/-- What is known of a piece over a tag that is stored elsewhere. -/
theorem By.five {W : World} {A : Option Addr} {n c h0 : Nat} {l : List Nat} (h : By W A n c l) (hne : ∀ g o, A = some ⟨g, o, none⟩ → 0 < n → h0 ≠ g) (x0 x1 x2 x3 x4 : Value) :
    By (((((W.setCell ⟨h0, 0, none⟩ x0).setCell ⟨h0, 1, none⟩ x1).setCell ⟨h0, 2, none⟩ x2).setCell ⟨h0, 3, none⟩ x3).setCell ⟨h0, 4, none⟩ x4) A n c l :=
  h.far hne (fun _ _ hg => five_far hg _ _ _ _ _) (five_size _ _ _ _ _ _ _)
theorem Piece.ge {B : Nat} {w' : World} {A' : Option Addr} {N n : Nat} {l : List Nat} (h : Piece B w' A' N n l) : ∀ g o, A' = some ⟨g, o, none⟩ → 0 < N → B ≤ g := by
  intro g o e hN
  obtain ⟨g', c', e', _, ho⟩ := h hN
  rw [e] at e'
  injection e' with e'
  injection e' with e1 _
  subst e1
  exact (ho.lt g rfl).1
theorem Piece.ne {B : Nat} {w' : World} {A' : Option Addr} {N n h0 : Nat} {l : List Nat} (h : Piece B w' A' N n l) (hb : h0 < B) : ∀ g o, A' = some ⟨g, o, none⟩ → 0 < N → h0 ≠ g := by
  intro g o e hN
  obtain ⟨g', c', e', _, ho⟩ := h hN
  rw [e] at e'
  injection e' with e'
  injection e' with e1 _
  subst e1
  have := (ho.lt g rfl).1
  omega

set_option maxRecDepth 100000 in
set_option maxHeartbeats 6400000 in
theorem mine_own (A : Option Addr) (n cp : Nat) (l : List Nat) (x y z : Int) (w : World) (hL : LaidF w) (hb : By w A n cp l) :
    Calls Tryz.prog 60 #[.slice A n cp, .int .i64 x, .int .i64 y, .int .i64 z] w fun r w' => ∃ A' N, r = .returned (.tuple #[.int .u8 (stM l x y z), .agg #[.int .i64 (mfl l x y z 0), .int .i64 (mfl l x y z 1), .int .i64 (mfl l x y z 2), .int .i64 (mfl l x y z 3), .int .i64 (mfl l x y z 4)], .slice A' N N]) ∧ By w' A' N N (mbl l x y z) ∧ (∀ g o, A' = some ⟨g, o, none⟩ → 0 < N → w.heap.size ≤ g) ∧ Ext w w' := by
  have hz := heap_alloc_new w (.cells #[.int .i64 0, .int .i64 0, .int .i64 0, .int .i64 0, .int .i64 0] 33)
  have hE := (Ext.refl w).alloc (.cells #[.int .i64 0, .int .i64 0, .int .i64 0, .int .i64 0, .int .i64 0] 33)
  have HB := Lib.hid hb
  have HL := Lib.hid hL
  have HE := Lib.hid hE
  have HZ := Lib.hid hz
  clear hb hL hE hz
  go_enter Tryz.func60, Tryz.ntmps60
  go_wp2_with fail
  refine (open_any A n cp l _ (HL.out.ext HE.out) (HB.out.ext HE.out)).mono ?_
  rintro r w1 ⟨A1, N, rfl, hb1, hpc, hx⟩
  have hz1 := (hx.block _ (Array.getElem?_eq_some_iff.1 HZ.out).1).trans HZ.out
  have HE := Lib.hid (HE.out.trans hx)
  have HZ := Lib.hid hz1
  have HB1 := Lib.hid hb1
  obtain ⟨⟨c0, c1, c2, c3, c4⟩, f0, f1, f2, f3, f4⟩ := five_cells hz1
  have HNE := Lib.hid (hpc.ne (h0 := w.heap.size) (by simp))
  have HGE : Hid (∀ g o, A1 = some ⟨g, o, none⟩ → 0 < N → w.heap.size ≤ g) := Lib.hid fun g o hA hN => Nat.le_trans (by simp) (hpc.ge g o hA hN)
  clear hx hz1 hb1 hpc
  by_cases hg : goodB l = true
  · have HST : Hid (stN l = 1) := Lib.hid (stN_good hg)
    rw [HST.out]
    by_cases hm : mineB l x y z = true
    · obtain ⟨e1, e2, e3⟩ := mine_yes hg hm
      have HR : Hid (stM l x y z = 1 ∧ (∀ k, mfl l x y z k = ofl l k) ∧ mbl l x y z = obl l) := Lib.hid ⟨e1, e2, e3⟩
      obtain ⟨rfl, rfl, rfl⟩ := (mineB_iff hg).1 hm
      clear e1 e2 e3 hg hm
      go_wp2_with fail
      have hrow := five_row HZ.out (.int .i64 (ofl l 0)) (.int .i64 (ofl l 1)) (.int .i64 (ofl l 2)) (.int .i64 (ofl l 3)) (.int .i64 (ofl l 4))
      have hx := five_ext HE.out (Nat.le_refl _) (.int .i64 (ofl l 0)) (.int .i64 (ofl l 1)) (.int .i64 (ofl l 2)) (.int .i64 (ofl l 3)) (.int .i64 (ofl l 4))
      have hby := HB1.out.five HNE.out (.int .i64 (ofl l 0)) (.int .i64 (ofl l 1)) (.int .i64 (ofl l 2)) (.int .i64 (ofl l 3)) (.int .i64 (ofl l 4))
      clear c0 c1 c2 c3 c4 f0 f1 f2 f3 f4
      generalize (((((w1.setCell ⟨w.heap.size, 0, none⟩ (.int .i64 (ofl l 0))).setCell ⟨w.heap.size, 1, none⟩ (.int .i64 (ofl l 1))).setCell ⟨w.heap.size, 2, none⟩ (.int .i64 (ofl l 2))).setCell ⟨w.heap.size, 3, none⟩ (.int .i64 (ofl l 3))).setCell ⟨w.heap.size, 4, none⟩ (.int .i64 (ofl l 4))) = W at *
      generalize hh0 : w.heap.size = h0 at *
      obtain ⟨⟨d0, d1, d2, d3, d4⟩, f0, f1, f2, f3, f4⟩ := five_cells hrow
      have HZ := Lib.hid hrow
      have HE := Lib.hid hx
      have HB1 := Lib.hid hby
      have HN0 := Lib.hid hh0
      clear hh0 hrow hx hby
      go_region_held3 (fun w' => w'.cell? ⟨h0, 0, none⟩ = some (.int .i64 (ofl l 0)) ∧ w'.cell? ⟨h0, 1, none⟩ = some (.int .i64 (ofl l 1)) ∧ w'.cell? ⟨h0, 2, none⟩ = some (.int .i64 (ofl l 2)) ∧ w'.cell? ⟨h0, 3, none⟩ = some (.int .i64 (ofl l 3)) ∧ w'.cell? ⟨h0, 4, none⟩ = some (.int .i64 (ofl l 4)))
        (first | with_reducible exact ⟨d0, d1, d2, d3, d4⟩ | with_reducible exact five_near_drew HZ.out _ _ _ _ _ | go_keep)
        (first | (go_at_call 0; fail))
      have hrow := five_row HZ.out (.int .i64 (ofl l 0)) (.int .i64 (ofl l 1)) (.int .i64 (ofl l 2)) (.int .i64 (ofl l 3)) (.int .i64 (ofl l 4))
      have hx := five_ext HE.out (g := h0) (Nat.le_of_eq HN0.out) (.int .i64 (ofl l 0)) (.int .i64 (ofl l 1)) (.int .i64 (ofl l 2)) (.int .i64 (ofl l 3)) (.int .i64 (ofl l 4))
      have hby := HB1.out.five HNE.out (.int .i64 (ofl l 0)) (.int .i64 (ofl l 1)) (.int .i64 (ofl l 2)) (.int .i64 (ofl l 3)) (.int .i64 (ofl l 4))
      clear d0 d1 d2 d3 d4 f0 f1 f2 f3 f4
      generalize (((((W.setCell ⟨h0, 0, none⟩ (.int .i64 (ofl l 0))).setCell ⟨h0, 1, none⟩ (.int .i64 (ofl l 1))).setCell ⟨h0, 2, none⟩ (.int .i64 (ofl l 2))).setCell ⟨h0, 3, none⟩ (.int .i64 (ofl l 3))).setCell ⟨h0, 4, none⟩ (.int .i64 (ofl l 4))) = V at hrow hx hby ⊢
      obtain ⟨⟨e0, e1, e2, e3, e4⟩, _⟩ := five_cells hrow
      have HB1 := Lib.hid (hby.ext ((Ext.refl V).drew))
      have HX := Lib.hid hx.drew
      clear hrow hx hby
      go_wp2_with fail
      refine bodyPost_ret (v := .tuple #[.int .u8 1, .agg #[.int .i64 (ofl l 0), .int .i64 (ofl l 1), .int .i64 (ofl l 2), .int .i64 (ofl l 3), .int .i64 (ofl l 4)], .slice A1 N N]) ?_ rfl ?_
      · simp [results, Tryz.results60, go_sem, e0, e1, e2, e3, e4]
      · exact ⟨A1, N, by rw [HR.out.1, HR.out.2.1, HR.out.2.1, HR.out.2.1, HR.out.2.1, HR.out.2.1]; rfl, by rw [HR.out.2.2]; exact HB1.out, by rw [HN0.out]; exact HGE.out, HX.out⟩
    · have hm' : mineB l x y z = false := by simpa using hm
      obtain ⟨e1, e2, e3⟩ := mine_no hg hm'
      have HR : Hid (stM l x y z = 2 ∧ (∀ k, mfl l x y z k = 0) ∧ mbl l x y z = []) := Lib.hid ⟨e1, e2, e3⟩
      rw [mineB_iff hg] at hm
      clear e1 e2 e3 hm'
      by_cases h0 : (ofl l 0 : Int) = x
      · by_cases h1 : (ofl l 1 : Int) = y
        · have h2 : ¬ (ofl l 2 : Int) = z := fun h => hm ⟨h0, h1, h⟩
          subst h0; subst h1
          have g2 : ((ofl l 2 : Int) != z) = true := by simpa using h2
          clear hm hg h2
          have hz2 := five_row HZ.out (.int .i64 (ofl l 0)) (.int .i64 (ofl l 1)) (.int .i64 (ofl l 2)) (.int .i64 (ofl l 3)) (.int .i64 (ofl l 4))
          have hz3 := five_row hz2 (.int .i64 0) (.int .i64 0) (.int .i64 0) (.int .i64 0) (.int .i64 0)
          have hx := five_ext HE.out (Nat.le_refl _) (.int .i64 (ofl l 0)) (.int .i64 (ofl l 1)) (.int .i64 (ofl l 2)) (.int .i64 (ofl l 3)) (.int .i64 (ofl l 4))
          have hx3 := five_ext hx (Nat.le_refl _) (.int .i64 0) (.int .i64 0) (.int .i64 0) (.int .i64 0) (.int .i64 0)
          have HZ3 := Lib.hid hz3
          have HX3 := Lib.hid hx3
          clear hz2 hz3 hx hx3
          go_wp2_with fail
          have hz3 := HZ3.out
          have hx3 := HX3.out
          generalize ((((((((((w1.setCell ⟨w.heap.size, 0, none⟩ (.int .i64 (ofl l 0))).setCell ⟨w.heap.size, 1, none⟩ (.int .i64 (ofl l 1))).setCell ⟨w.heap.size, 2, none⟩ (.int .i64 (ofl l 2))).setCell ⟨w.heap.size, 3, none⟩ (.int .i64 (ofl l 3))).setCell ⟨w.heap.size, 4, none⟩ (.int .i64 (ofl l 4))).setCell ⟨w.heap.size, 0, none⟩ (.int .i64 0)).setCell ⟨w.heap.size, 1, none⟩ (.int .i64 0)).setCell ⟨w.heap.size, 2, none⟩ (.int .i64 0)).setCell ⟨w.heap.size, 3, none⟩ (.int .i64 0)).setCell ⟨w.heap.size, 4, none⟩ (.int .i64 0)) = V at hz3 hx3 ⊢
          obtain ⟨⟨e0, e1, e2, e3, e4⟩, _⟩ := five_cells hz3
          refine bodyPost_ret (v := .tuple #[.int .u8 2, .agg #[.int .i64 0, .int .i64 0, .int .i64 0, .int .i64 0, .int .i64 0], .slice none 0 0]) ?_ rfl ?_
          · simp [results, Tryz.results60, go_sem, e0, e1, e2, e3, e4]
          · exact ⟨none, 0, by rw [HR.out.1, HR.out.2.1, HR.out.2.1, HR.out.2.1, HR.out.2.1, HR.out.2.1]; rfl, by rw [HR.out.2.2]; exact By.nil_ _, fun g o hA hN => absurd hN (by omega), hx3⟩
        · subst h0
          have g1 : ((ofl l 1 : Int) != y) = true := by simpa using h1
          clear hm hg h1
          have hz2 := five_row HZ.out (.int .i64 (ofl l 0)) (.int .i64 (ofl l 1)) (.int .i64 (ofl l 2)) (.int .i64 (ofl l 3)) (.int .i64 (ofl l 4))
          have hz3 := five_row hz2 (.int .i64 0) (.int .i64 0) (.int .i64 0) (.int .i64 0) (.int .i64 0)
          have hx := five_ext HE.out (Nat.le_refl _) (.int .i64 (ofl l 0)) (.int .i64 (ofl l 1)) (.int .i64 (ofl l 2)) (.int .i64 (ofl l 3)) (.int .i64 (ofl l 4))
          have hx3 := five_ext hx (Nat.le_refl _) (.int .i64 0) (.int .i64 0) (.int .i64 0) (.int .i64 0) (.int .i64 0)
          have HZ3 := Lib.hid hz3
          have HX3 := Lib.hid hx3
          clear hz2 hz3 hx hx3
          go_wp2_with fail
          have hz3 := HZ3.out
          have hx3 := HX3.out
          generalize ((((((((((w1.setCell ⟨w.heap.size, 0, none⟩ (.int .i64 (ofl l 0))).setCell ⟨w.heap.size, 1, none⟩ (.int .i64 (ofl l 1))).setCell ⟨w.heap.size, 2, none⟩ (.int .i64 (ofl l 2))).setCell ⟨w.heap.size, 3, none⟩ (.int .i64 (ofl l 3))).setCell ⟨w.heap.size, 4, none⟩ (.int .i64 (ofl l 4))).setCell ⟨w.heap.size, 0, none⟩ (.int .i64 0)).setCell ⟨w.heap.size, 1, none⟩ (.int .i64 0)).setCell ⟨w.heap.size, 2, none⟩ (.int .i64 0)).setCell ⟨w.heap.size, 3, none⟩ (.int .i64 0)).setCell ⟨w.heap.size, 4, none⟩ (.int .i64 0)) = V at hz3 hx3 ⊢
          obtain ⟨⟨e0, e1, e2, e3, e4⟩, _⟩ := five_cells hz3
          refine bodyPost_ret (v := .tuple #[.int .u8 2, .agg #[.int .i64 0, .int .i64 0, .int .i64 0, .int .i64 0, .int .i64 0], .slice none 0 0]) ?_ rfl ?_
          · simp [results, Tryz.results60, go_sem, e0, e1, e2, e3, e4]
          · exact ⟨none, 0, by rw [HR.out.1, HR.out.2.1, HR.out.2.1, HR.out.2.1, HR.out.2.1, HR.out.2.1]; rfl, by rw [HR.out.2.2]; exact By.nil_ _, fun g o hA hN => absurd hN (by omega), hx3⟩
      · have g0 : ((ofl l 0 : Int) != x) = true := by simpa using h0
        clear hm hg h0
        have hz2 := five_row HZ.out (.int .i64 (ofl l 0)) (.int .i64 (ofl l 1)) (.int .i64 (ofl l 2)) (.int .i64 (ofl l 3)) (.int .i64 (ofl l 4))
        have hz3 := five_row hz2 (.int .i64 0) (.int .i64 0) (.int .i64 0) (.int .i64 0) (.int .i64 0)
        have hx := five_ext HE.out (Nat.le_refl _) (.int .i64 (ofl l 0)) (.int .i64 (ofl l 1)) (.int .i64 (ofl l 2)) (.int .i64 (ofl l 3)) (.int .i64 (ofl l 4))
        have hx3 := five_ext hx (Nat.le_refl _) (.int .i64 0) (.int .i64 0) (.int .i64 0) (.int .i64 0) (.int .i64 0)
        have HZ3 := Lib.hid hz3
        have HX3 := Lib.hid hx3
        clear hz2 hz3 hx hx3
        go_wp2_with fail
        have hz3 := HZ3.out
        have hx3 := HX3.out
        generalize ((((((((((w1.setCell ⟨w.heap.size, 0, none⟩ (.int .i64 (ofl l 0))).setCell ⟨w.heap.size, 1, none⟩ (.int .i64 (ofl l 1))).setCell ⟨w.heap.size, 2, none⟩ (.int .i64 (ofl l 2))).setCell ⟨w.heap.size, 3, none⟩ (.int .i64 (ofl l 3))).setCell ⟨w.heap.size, 4, none⟩ (.int .i64 (ofl l 4))).setCell ⟨w.heap.size, 0, none⟩ (.int .i64 0)).setCell ⟨w.heap.size, 1, none⟩ (.int .i64 0)).setCell ⟨w.heap.size, 2, none⟩ (.int .i64 0)).setCell ⟨w.heap.size, 3, none⟩ (.int .i64 0)).setCell ⟨w.heap.size, 4, none⟩ (.int .i64 0)) = V at hz3 hx3 ⊢
        obtain ⟨⟨e0, e1, e2, e3, e4⟩, _⟩ := five_cells hz3
        refine bodyPost_ret (v := .tuple #[.int .u8 2, .agg #[.int .i64 0, .int .i64 0, .int .i64 0, .int .i64 0, .int .i64 0], .slice none 0 0]) ?_ rfl ?_
        · simp [results, Tryz.results60, go_sem, e0, e1, e2, e3, e4]
        · exact ⟨none, 0, by rw [HR.out.1, HR.out.2.1, HR.out.2.1, HR.out.2.1, HR.out.2.1, HR.out.2.1]; rfl, by rw [HR.out.2.2]; exact By.nil_ _, fun g o hA hN => absurd hN (by omega), hx3⟩
  · have hg' : goodB l = false := by simpa using hg
    obtain ⟨e1, e2, e3⟩ := mine_bad (x := x) (y := y) (z := z) hg'
    have HR : Hid (stM l x y z = stN l ∧ (∀ k, mfl l x y z k = ofl l k) ∧ mbl l x y z = obl l) := Lib.hid ⟨e1, e2, e3⟩
    have hst : ¬ stN l = 1 := fun h => hg (stN_one.1 h)
    have g0 : ((stN l : Int) == 1) = false := by simp; omega
    clear e1 e2 e3 hg hg' hst
    generalize stN l = st at *
    go_wp2_with fail
    have hrow := five_row HZ.out (.int .i64 (ofl l 0)) (.int .i64 (ofl l 1)) (.int .i64 (ofl l 2)) (.int .i64 (ofl l 3)) (.int .i64 (ofl l 4))
    have hx := five_ext HE.out (Nat.le_refl _) (.int .i64 (ofl l 0)) (.int .i64 (ofl l 1)) (.int .i64 (ofl l 2)) (.int .i64 (ofl l 3)) (.int .i64 (ofl l 4))
    have hby := HB1.out.five HNE.out (.int .i64 (ofl l 0)) (.int .i64 (ofl l 1)) (.int .i64 (ofl l 2)) (.int .i64 (ofl l 3)) (.int .i64 (ofl l 4))
    clear c0 c1 c2 c3 c4 f0 f1 f2 f3 f4
    generalize (((((w1.setCell ⟨w.heap.size, 0, none⟩ (.int .i64 (ofl l 0))).setCell ⟨w.heap.size, 1, none⟩ (.int .i64 (ofl l 1))).setCell ⟨w.heap.size, 2, none⟩ (.int .i64 (ofl l 2))).setCell ⟨w.heap.size, 3, none⟩ (.int .i64 (ofl l 3))).setCell ⟨w.heap.size, 4, none⟩ (.int .i64 (ofl l 4))) = W at *
    generalize hh0 : w.heap.size = h0 at *
    obtain ⟨⟨d0, d1, d2, d3, d4⟩, f0, f1, f2, f3, f4⟩ := five_cells hrow
    have HZ := Lib.hid hrow
    have HE := Lib.hid hx
    have HB1 := Lib.hid hby
    have HN0 := Lib.hid hh0
    clear hh0 hrow hx hby
    go_region_held3 (fun w' => w'.cell? ⟨h0, 0, none⟩ = some (.int .i64 (ofl l 0)) ∧ w'.cell? ⟨h0, 1, none⟩ = some (.int .i64 (ofl l 1)) ∧ w'.cell? ⟨h0, 2, none⟩ = some (.int .i64 (ofl l 2)) ∧ w'.cell? ⟨h0, 3, none⟩ = some (.int .i64 (ofl l 3)) ∧ w'.cell? ⟨h0, 4, none⟩ = some (.int .i64 (ofl l 4)))
      (first | with_reducible exact ⟨d0, d1, d2, d3, d4⟩ | with_reducible exact five_near_drew HZ.out _ _ _ _ _ | go_keep)
      (first | (go_at_call 0; fail))
    have hrow := five_row HZ.out (.int .i64 (ofl l 0)) (.int .i64 (ofl l 1)) (.int .i64 (ofl l 2)) (.int .i64 (ofl l 3)) (.int .i64 (ofl l 4))
    have hx := five_ext HE.out (g := h0) (Nat.le_of_eq HN0.out) (.int .i64 (ofl l 0)) (.int .i64 (ofl l 1)) (.int .i64 (ofl l 2)) (.int .i64 (ofl l 3)) (.int .i64 (ofl l 4))
    have hby := HB1.out.five HNE.out (.int .i64 (ofl l 0)) (.int .i64 (ofl l 1)) (.int .i64 (ofl l 2)) (.int .i64 (ofl l 3)) (.int .i64 (ofl l 4))
    clear d0 d1 d2 d3 d4 f0 f1 f2 f3 f4
    generalize (((((W.setCell ⟨h0, 0, none⟩ (.int .i64 (ofl l 0))).setCell ⟨h0, 1, none⟩ (.int .i64 (ofl l 1))).setCell ⟨h0, 2, none⟩ (.int .i64 (ofl l 2))).setCell ⟨h0, 3, none⟩ (.int .i64 (ofl l 3))).setCell ⟨h0, 4, none⟩ (.int .i64 (ofl l 4))) = V at hrow hx hby ⊢
    obtain ⟨⟨e0, e1, e2, e3, e4⟩, _⟩ := five_cells hrow
    have HB1 := Lib.hid (hby.ext ((Ext.refl V).drew))
    have HX := Lib.hid hx.drew
    clear hrow hx hby
    go_wp2_with fail
    refine bodyPost_ret (v := .tuple #[.int .u8 st, .agg #[.int .i64 (ofl l 0), .int .i64 (ofl l 1), .int .i64 (ofl l 2), .int .i64 (ofl l 3), .int .i64 (ofl l 4)], .slice A1 N N]) ?_ rfl ?_
    · simp [results, Tryz.results60, go_sem, e0, e1, e2, e3, e4]
    · exact ⟨A1, N, by rw [HR.out.1, HR.out.2.1, HR.out.2.1, HR.out.2.1, HR.out.2.1, HR.out.2.1], by rw [HR.out.2.2]; exact HB1.out, by rw [HN0.out]; exact HGE.out, HX.out⟩
end Go.Proofs.YtlikhmhomkiadaaGreatDoor

namespace Go.Proofs.YtlikhmhomkiadaaGreatDoor
set_option maxRecDepth 100000
open Go Go.RowKit

theorem in_any (r b : Nat) (w : World) (hr : r < 4294967296) (hb : b < 2) :
    Calls Tryz.prog 154 #[.int .u32 r, .int .u32 b] w fun e w' => e = .returned (.int .u32 ((stp (r ^^^ b) : Nat) : Int)) ∧ w = w' := by
  by_cases h : r % 2 = b
  · have HS := Lib.hid (in_no hb h)
    have ht : (((r : Int) % 2) != (b : Int)) = false := by simp; omega
    clear h
    go_enter Tryz.func154, Tryz.ntmps154
    go_wp2_with fail
    go_ret
    exact ⟨by rw [HS.out]; rfl, rfl⟩
  · have HS := Lib.hid (in_yes hb h)
    have ht : (((r : Int) % 2) != (b : Int)) = true := by simp; omega
    have hx : bits .xor .u32 ((r : Int) / 2) 2197175160 = ((r / 2 ^^^ 2197175160 : Nat) : Int) := u32_xor_nat (r / 2) 2197175160 (by omega) (by omega)
    clear h
    go_enter Tryz.func154, Tryz.ntmps154
    go_wp2_with fail
    go_ret
    exact ⟨by rw [HS.out]; rfl, rfl⟩
end Go.Proofs.YtlikhmhomkiadaaGreatDoor

namespace Go.Proofs.YtlikhmhomkiadaaGreatDoor
set_option maxRecDepth 100000
open Go Go.RowKit

set_option maxHeartbeats 400000 in
theorem rext_any (A : Option Addr) (l : List Nat) (n c B s : Nat) (w : World) (hl : l.length = n) (hr : Rd w B A l) (hm : n ≤ maxLen) (hs : s < 4294967296) :
    Calls Tryz.prog 136 #[.int .u32 s, .slice A n c] w fun e w' => e = .returned (.int .u32 ((crcE s l : Nat) : Int)) ∧ w = w' := by
  unfold maxLen at hm
  have HL := Lib.hid hl
  clear hl
  go_enter Tryz.func136, Tryz.ntmps136
  go_wp2_with fail
  go_loop [5, 6] (fun vr vi => ∃ k t : Nat, k ≤ n ∧ vi = .int .i64 k ∧ vr = .int .u32 t ∧ t < 4294967296 ∧ Hid (t = feed (inv s) (l.take k))) (fun _ vi => n - (intOf vi).toNat)
  case atStart => exact ⟨0, inv s, Nat.zero_le _, rfl, by unfold inv; go_num, inv_lt s, Lib.hid rfl⟩
  case round =>
    obtain ⟨k, t, hk, rfl, rfl, ht, HT⟩ := hrel
    by_cases hlt : k < n
    · obtain ⟨g, o, x, hA, _, hx, hx2, hcx⟩ := hr.at_ (k := k) (by rw [HL.out]; exact hlt)
      subst hA
      have HX : Hid (inb t x = feed (inv s) (l.take (k + 1))) := Lib.hid (by rw [feed_take hx, ← HT.out])
      have hin := inb_lt ht hx2
      clear hx HT
      go_wp2_with fail
      go_loop [5, 7, 8] (fun vr vx vj => ∃ j u y : Nat, j ≤ 8 ∧ vj = .int .i64 j ∧ vr = .int .u32 u ∧ vx = .int .u32 y ∧ u < 4294967296 ∧ y < 256 ∧ Hid (y = x / 2 ^ j) ∧ Hid (stps (8 - j) (u ^^^ y) = inb t x)) (fun _ _ vj => 8 - (intOf vj).toNat)
      case atStart => exact ⟨0, t, x, by omega, rfl, rfl, by go_num, ht, hx2, Lib.hid (by simp), Lib.hid rfl⟩
      case round =>
        obtain ⟨j, u, y, hj, rfl, rfl, rfl, hu, hy, HY, HU⟩ := hrel
        by_cases hj8 : j < 8
        · have HU2 := Lib.hid (inb_step hj8 HU.out)
          have HY2 : Hid (y / 2 = x / 2 ^ (j + 1)) := Lib.hid (by rw [HY.out, Nat.div_div_eq_div_mul, Nat.pow_succ])
          have hy2 : y % 2 < 2 := Nat.mod_lt _ (by omega)
          have hu2 : stp (u ^^^ (y % 2)) < 4294967296 := stp_lt (xor_lt32 hu (by omega))
          go_wp2_with fail
          refine (in_any u (y % 2) _ hu hy2).mono ?_
          rintro e w' ⟨rfl, rfl⟩
          go_wp2_with fail
          go_round
          case rel => exact ⟨j + 1, _, y / 2, by omega, by go_num, rfl, by go_num, hu2, by omega, HY2, HU2⟩
          case measure => simp [intOf]; omega
        · have HF : Hid (u = inb t x) := by
            obtain rfl : j = 8 := by omega
            have h1 := HU.out
            have h2 := HY.out
            obtain rfl : y = 0 := by omega
            rw [Nat.sub_self, Nat.xor_zero] at h1
            exact Lib.hid h1
          go_wp2_with fail
          go_round
          case rel => exact ⟨k + 1, u, by omega, by go_num, rfl, hu, Lib.hid (HF.out.trans HX.out)⟩
          case measure => simp [intOf]; omega
    · have HF : Hid (inv t = crcE s l) := by
        have := HT.out
        rw [List.take_of_length_le (by have := HL.out; omega)] at this
        exact Lib.hid (by rw [this]; rfl)
      go_wp2_with fail
      go_ret
      exact ⟨by rw [← HF.out]; unfold inv; go_num, rfl⟩
theorem rsum_any (A : Option Addr) (l : List Nat) (n c B : Nat) (w : World) (hl : l.length = n) (hr : Rd w B A l) (hm : n ≤ maxLen) :
    Calls Tryz.prog 96 #[.slice A n c] w fun e w' => e = .returned (.int .u32 ((crcS l : Nat) : Int)) ∧ w = w' := by
  have HM := Lib.hid hm
  go_enter Tryz.func96, Tryz.ntmps96
  go_wp2_with fail
  refine (rext_any A l n c B 0 _ hl hr HM.out (by omega)).mono ?_
  rintro e w' ⟨rfl, rfl⟩
  go_wp2_with fail
  go_ret
  exact ⟨rfl, rfl⟩
end Go.Proofs.YtlikhmhomkiadaaGreatDoor

namespace Go.Proofs.YtlikhmhomkiadaaGreatDoor
set_option maxRecDepth 100000
open Go Go.RowKit

theorem rsum_by (A : Option Addr) (l : List Nat) (n c : Nat) (w : World) (hb : By w A n c l) :
    Calls Tryz.prog 96 #[.slice A n c] w fun e w' => e = .returned (.int .u32 ((crcS l : Nat) : Int)) ∧ w = w' :=
  rsum_any A l n c _ w hb.len hb.rd (by have := hb.cap; have := hb.most; unfold maxLen; omega)
/-- A slice value's length. -/
def lenOf : Value → Nat
  | .slice _ n _ => n
  | _ => 0
theorem zeros_snoc (l : List Nat) (k : Nat) : l ++ List.replicate k 0 ++ [0] = l ++ List.replicate (k + 1) 0 := by
  rw [List.append_assoc, ← List.replicate_succ']

set_option maxRecDepth 100000 in
set_option maxHeartbeats 3200000 in
theorem rseal_arg (a b c d e s : Int) (A : Option Addr) (n cp : Nat) (w : World) (h : roomN s = 0 ∨ mayB a b c d e = false) :
    Calls Tryz.prog 39 #[.agg #[.int .i64 a, .int .i64 b, .int .i64 c, .int .i64 d, .int .i64 e], .slice A n cp, .int .i64 s] w fun r w' => r = .returned (.tuple #[.slice none 0 0, .int .i64 2]) ∧ Ext w w' := by
  have hE := (Ext.refl w).alloc (.cells #[.int .i64 a, .int .i64 b, .int .i64 c, .int .i64 d, .int .i64 e] 33)
  have hT := heap_alloc_new w (.cells #[.int .i64 a, .int .i64 b, .int .i64 c, .int .i64 d, .int .i64 e] 33)
  have HE := Lib.hid hE
  obtain ⟨⟨i0, i1, i2, i3, i4⟩, _⟩ := five_cells hT
  clear hE hT
  by_cases hm : mayB a b c d e = false
  · clear h
    go_enter Tryz.func39, Tryz.ntmps39
    go_wp2_with fail
    refine (rprint_any _ _ _ _ _ _).mono ?_
    rw [pl_no hm, pr_no hm]
    rintro r w1 ⟨A1, c1, rfl, _, hx⟩
    have HE := Lib.hid (HE.out.trans hx)
    clear hx i0 i1 i2 i3 i4
    go_wp2_with fail
    go_ret2
    exact ⟨rfl, HE.out⟩
  · have h0 : roomN s = 0 := by rcases h with h | h; exact h; exact absurd h hm
    have hm' : mayB a b c d e = true := by simpa using hm
    clear h hm
    go_enter Tryz.func39, Tryz.ntmps39
    go_wp2_with fail
    refine (rprint_any _ _ _ _ _ _).mono ?_
    rw [pr_yes hm']
    rintro r w1 ⟨A1, c1, rfl, _, hx⟩
    have HE := Lib.hid (HE.out.trans hx)
    clear hx i0 i1 i2 i3 i4 hm'
    go_wp2_with fail
    refine (rroom_any _ _).mono ?_
    rw [h0]
    rintro r w2 ⟨rfl, rfl⟩
    go_wp2_with fail
    go_ret2
    exact ⟨rfl, HE.out⟩

set_option maxRecDepth 100000 in
set_option maxHeartbeats 3200000 in
theorem rseal_long (a b c d e s : Int) (A : Option Addr) (n cp : Nat) (w : World) (h0 : roomN s ≠ 0) (hm : mayB a b c d e = true) (hn : roomN s < n) :
    Calls Tryz.prog 39 #[.agg #[.int .i64 a, .int .i64 b, .int .i64 c, .int .i64 d, .int .i64 e], .slice A n cp, .int .i64 s] w fun r w' => r = .returned (.tuple #[.slice none 0 0, .int .i64 3]) ∧ Ext w w' := by
  have hE := (Ext.refl w).alloc (.cells #[.int .i64 a, .int .i64 b, .int .i64 c, .int .i64 d, .int .i64 e] 33)
  have hT := heap_alloc_new w (.cells #[.int .i64 a, .int .i64 b, .int .i64 c, .int .i64 d, .int .i64 e] 33)
  have HE := Lib.hid hE
  obtain ⟨⟨i0, i1, i2, i3, i4⟩, _⟩ := five_cells hT
  have g0 : (((roomN s : Nat) : Int) == 0) = false := by simpa using h0
  have HR : Hid (∀ w, Calls Tryz.prog 94 #[.int .i64 s] w fun e w' => e = .returned (.int .i64 (roomN s)) ∧ w = w') := Lib.hid (rroom_any s)
  clear hE hT h0
  go_enter Tryz.func39, Tryz.ntmps39
  go_wp2_with fail
  refine (rprint_any _ _ _ _ _ _).mono ?_
  rw [pr_yes hm]
  rintro r w1 ⟨A1, c1, rfl, _, hx⟩
  have HE := Lib.hid (HE.out.trans hx)
  clear hx i0 i1 i2 i3 i4 hm
  generalize roomN s = R at *
  go_wp2_with fail
  refine (HR.out _).mono ?_
  rintro r w2 ⟨rfl, rfl⟩
  go_wp2_with fail
  refine (HR.out _).mono ?_
  rintro r w2 ⟨rfl, rfl⟩
  go_wp2_with fail
  go_ret2
  exact ⟨rfl, HE.out⟩

theorem own_lower {w : World} {b b' n : Nat} {e : TypeId} {s : Nat} {v : Value} {xs : List Value} (h : w.ownsRow b e s v n xs) (hb : b' ≤ b) : w.ownsRow b' e s v n xs := by
  refine ⟨h.1, ?_⟩
  rcases h.2 with h0 | ⟨g, cap, cur, hv, hbg, h1⟩
  · exact .inl h0
  · exact .inr ⟨g, cap, cur, hv, Nat.le_trans hb hbg, h1⟩
set_option maxRecDepth 100000 in
set_option maxHeartbeats 6400000 in
theorem rseal_yes_own (a b c d e : Int) (S : Nat) (A : Option Addr) (n cp : Nat) (body : List Nat) (w : World) (hb : By w A n cp body) (h0 : roomN (S : Int) ≠ 0) (hm : mayB a b c d e = true) (hn : n ≤ roomN (S : Int)) :
    Calls Tryz.prog 39 #[.agg #[.int .i64 a, .int .i64 b, .int .i64 c, .int .i64 d, .int .i64 e], .slice A n cp, .int .i64 S] w fun r w' => ∃ A' c', r = .returned (.tuple #[.slice A' (64 * S) c', .int .i64 0]) ∧ By w' A' (64 * S) c' (frameL body (pl a b c d e) S) ∧ Ext w w' ∧ w'.ownsRow w.heap.size 5 1 (.slice A' (64 * S) c') (64 * S) (vb (frameL body (pl a b c d e) S)) := by
  obtain ⟨i0, hi, hz0, hz1, hz2⟩ := info_parts byte_info
  have hE := (Ext.refl w).alloc (.cells #[.int .i64 a, .int .i64 b, .int .i64 c, .int .i64 d, .int .i64 e] 33)
  have hT := heap_alloc_new w (.cells #[.int .i64 a, .int .i64 b, .int .i64 c, .int .i64 d, .int .i64 e] 33)
  have HE := Lib.hid hE
  have HB := Lib.hid hb
  obtain ⟨⟨j0, j1, j2, j3, j4⟩, _⟩ := five_cells hT
  have g0 : (((roomN (S : Int) : Nat) : Int) == 0) = false := by simpa using h0
  have HR : Hid (∀ w, Calls Tryz.prog 94 #[.int .i64 S] w fun e w' => e = .returned (.int .i64 (roomN (S : Int))) ∧ w = w') := Lib.hid (rroom_any S)
  have hfit := room_fits hn (by omega)
  have h15 : (pl a b c d e).length = 15 := by rw [pl_yes hm, tagBytes_len]
  have hN : body.length = n := Bs.len hb
  obtain ⟨m, hm4⟩ : ∃ m : Nat, m = 64 * S - 21 - n := ⟨_, rfl⟩
  have HH : Hid (digs 2 n ++ pl a b c d e ++ body ++ List.replicate m 0 = frameH body (pl a b c d e) S) := Lib.hid (by rw [← hN]; exact frame_split body _ S m (by rw [hN]; exact hm4))
  have hm5 : 17 + n + m ≤ 64 * S - 4 := by omega
  have hm6 : 64 * S - 4 ≤ 17 + n + m := by omega
  have HM5 : Hid (2 + 15 + n + m = 64 * S - 4 ∧ 64 * S - 4 + 4 = 64 * S) := Lib.hid (by omega)
  have hroomle := roomN_le (S : Int)
  have HHlt : Hid (∀ x ∈ frameH body (pl a b c d e) S, x < 256) := Lib.hid (frameH_lt (Bs.rd hb).lt (by rw [pl_yes hm]; exact tagBytes_lt _ _ _ _ _))
  have hplt : ∀ x ∈ pl a b c d e, x < 256 := by rw [pl_yes hm]; exact tagBytes_lt _ _ _ _ _
  have HPlt := Lib.hid hplt
  clear hE hT h0 hb hN hm4 hplt
  go_enter Tryz.func39, Tryz.ntmps39
  go_wp2_with fail
  refine (rprint_any _ _ _ _ _ _).mono ?_
  rw [h15, pr_yes hm]
  rintro r w1 ⟨A1, c1, rfl, hb1, hx⟩
  have HB1 := Lib.hid hb1
  have HE := Lib.hid (HE.out.trans hx)
  clear hx j0 j1 j2 j3 j4 hm hb1
  generalize roomN (S : Int) = R at *
  generalize hpl : pl a b c d e = own at *
  have HPL := Lib.hid hpl
  clear hpl
  go_wp2_with fail
  refine (HR.out _).mono ?_
  rintro r w2 ⟨rfl, rfl⟩
  go_wp2_with fail
  refine (HR.out _).mono ?_
  rintro r w2 ⟨rfl, rfl⟩
  go_wp2_with fail
  refine (rput_yes 2 n _ (fits_iff.2 ⟨rfl, by omega, by show n < 65536; omega⟩)).mono ?_
  rintro r w2 ⟨A2, c2, rfl, ho2, hx2⟩
  have HO2 := Lib.hid ho2
  have HX2 : Hid (Ext w1 w2) := Lib.hid hx2
  have hsz2 := Ext.size HX2.out
  clear ho2 hx2
  go_wp2_with (at_builtin; refine wpList_append_by rfl _ _ 34 rfl w1.heap.size 5 i0 Tryz.underlying34 hi hz0 hz1 hz2 _ 2 (vb (digs 2 n)) rfl HO2.out A1 15 c1 own rfl (HB1.out.ext HX2.out) (by omega) hsz2 ?_)
  intro v3 w3 hown hg
  obtain ⟨hx, A3, c3, rfl, _, ho3⟩ := app_step HX2.out HO2.out hg hown (digs_lt _ _) HB1.out.rd.lt
  have HO3 := Lib.hid ho3
  have HX3 := Lib.hid hx
  have hsz3 := Ext.size HX3.out
  clear hx ho3 hown hg hsz2 HO2 HX2
  go_wp2_with (at_builtin; refine wpList_append_by rfl _ _ 34 rfl w1.heap.size 5 i0 Tryz.underlying34 hi hz0 hz1 hz2 _ (2 + 15) (vb (digs 2 n ++ own)) rfl HO3.out A n cp body rfl (HB.out.ext (HE.out.trans HX3.out)) (by omega) hsz3 ?_)
  intro v4 w4 hown hg
  obtain ⟨hx, A4, c4, rfl, _, ho4⟩ := app_step HX3.out HO3.out hg hown (by intro x hx; rcases List.mem_append.1 hx with h | h; exact digs_lt _ _ x h; exact HPlt.out x h) HB.out.rd.lt
  have HO4 := Lib.hid ho4
  have HX4 := Lib.hid hx
  clear hx ho4 hown hg hsz3 HO3 HX3
  have HPre : Hid (∀ x ∈ digs 2 n ++ own ++ body, x < 256) := Lib.hid (by
    intro x hx
    rcases List.mem_append.1 hx with h | h
    · rcases List.mem_append.1 h with h | h
      · exact digs_lt _ _ x h
      · exact HPlt.out x h
    · exact HB.out.rd.lt x h)
  go_wp2_with fail
  generalize digs 2 n ++ own ++ body = Pre at *
  go_loopw [10] (fun v wr => ∃ k : Nat, k ≤ m ∧ ∃ A' c' L, v = .slice A' (17 + n + k) c' ∧ Hid (L = Pre ++ List.replicate k 0) ∧ Hid (∀ x ∈ L, x < 256) ∧ Hid (wr.ownsRow w1.heap.size 5 1 (.slice A' (17 + n + k) c') (17 + n + k) (vb L)) ∧ Hid (Ext w1 wr)) (fun v _ => 17 + n + m - lenOf v)
  case atStart => exact ⟨0, Nat.zero_le _, A4, c4, Pre, rfl, Lib.hid (by rw [List.replicate_zero, List.append_nil]), HPre, HO4, HX4⟩
  case round =>
    obtain ⟨k, hk, A5, c5, L, rfl, HLk, HLt, HO5, HX5⟩ := hrel
    have hsz5 := Ext.size HX5.out
    by_cases hlt : k < m
    · obtain ⟨Z, hZ⟩ : ∃ Z, Z = [0] := ⟨_, rfl⟩
      have hlit := By.lit wr [0] 5 (by decide) (by decide) #[.int .u8 0] rfl
      rw [← hZ] at hlit
      have HY : Hid (By (wr.alloc (.cells #[.int .u8 0] 5)) (some ⟨wr.heap.size, 0, none⟩) 1 1 Z) := Lib.hid (by rw [hZ] at hlit ⊢; exact hlit)
      have HZ1 : Hid (Z = [0]) := Lib.hid hZ
      have hsz6 : w1.heap.size ≤ (wr.alloc (.cells #[.int .u8 0] 5)).heap.size := Nat.le_trans hsz5 (by simp)
      clear hlit hZ
      go_wp2_with (at_builtin; refine wpList_append_by rfl _ _ 34 rfl w1.heap.size 5 i0 Tryz.underlying34 hi hz0 hz1 hz2 _ (17 + n + k) (vb L) rfl (HO5.out.alloc _) (some ⟨wr.heap.size, 0, none⟩) 1 1 Z rfl HY.out (by omega) hsz6 ?_)
      intro v6 w6 hown hg
      obtain ⟨hx, A6, c6, rfl, hb6, ho6⟩ := app_step (HX5.out.alloc _) (HO5.out.alloc _) hg hown HLt.out (by rw [HZ1.out]; decide)
      have HL6 : Hid (L ++ Z = Pre ++ List.replicate (k + 1) 0) := Lib.hid (by rw [HZ1.out, HLk.out, zeros_snoc])
      have HLt6 := Lib.hid hb6.rd.lt
      have HO6 := Lib.hid ho6
      have HX6 := Lib.hid hx
      clear hx ho6 hown hg hsz6 HY HO5 HX5 hb6
      generalize L ++ Z = L6 at *
      go_wp2_with fail
      go_roundw
      case rel => exact ⟨k + 1, by omega, A6, c6, L6, rfl, HL6, HLt6, HO6, HX6⟩
      case measure => simp [lenOf]; omega
    · have hkm : k = m := by omega
      subst hkm
      have hLF : L = frameH body own S := HLk.out.trans HH.out
      have hs : crcS L < 4294967296 := crcE_lt _ _
      have HZ : Hid (L ++ digs 4 (crcS L) = frameL body own S) := Lib.hid (by rw [hLF]; rfl)
      have HB5 := Lib.hid (Bs.of_own HO5.out HLt.out)
      clear hLF
      generalize hz : crcS L = z at *
      go_wp2_with fail
      refine (rsum_by _ L _ _ _ HB5.out).mono ?_
      rw [hz]
      rintro r w6 ⟨rfl, rfl⟩
      have HZz := Lib.hid hz
      clear hz
      go_wp2_with fail
      refine (rput_yes 4 z _ (fits_iff.2 ⟨rfl, by omega, by show z < 4294967296; omega⟩)).mono ?_
      rintro r w7 ⟨A7, c7, rfl, ho7, hx7⟩
      obtain ⟨D, hD⟩ : ∃ D, D = digs 4 z := ⟨_, rfl⟩
      have hb7 := Bs.of_own ho7 (digs_lt _ _)
      rw [← hD] at hb7
      have HZ := HZ.out
      rw [← hD] at HZ
      have HZ := Lib.hid HZ
      have HB7 : Hid (By w7 A7 4 c7 D) := Lib.hid hb7
      have HX7 : Hid (Ext wr w7) := Lib.hid hx7
      have HO7 := Lib.hid (own_ext HO5.out HX7.out)
      have HX := Lib.hid (HX5.out.trans HX7.out)
      have hsz7 := Ext.size HX.out
      clear ho7 hx7 hb7 hD
      go_wp2_with (at_builtin; refine wpList_append_by rfl _ _ 34 rfl w1.heap.size 5 i0 Tryz.underlying34 hi hz0 hz1 hz2 _ (17 + n + k) (vb L) rfl HO7.out A7 4 c7 D rfl HB7.out (by omega) hsz7 ?_)
      intro v8 w8 hown hg
      have e8 : 17 + n + k + 4 = 64 * S := by omega
      rw [e8] at hown
      obtain ⟨hx, A8, c8, rfl, hb8, ho8⟩ := app_step HX.out HO7.out hg hown HLt.out HB7.out.rd.lt
      rw [HZ.out] at hb8 ho8
      have HB8 := Lib.hid hb8
      have HO8 := Lib.hid (own_lower ho8 HE.out.size)
      have HE8 := Lib.hid (HE.out.trans hx)
      clear hx hb8 ho8 hown hg hsz7 e8
      go_wp2_with fail
      go_ret2
      exact ⟨A8, c8, rfl, by rw [HPL.out]; exact HB8.out, HE8.out, by rw [HPL.out]; exact HO8.out⟩

theorem rseal_own (a b c d e s : Int) (A : Option Addr) (n cp : Nat) (body : List Nat) (w : World) (hb : By w A n cp body) :
    Calls Tryz.prog 39 #[.agg #[.int .i64 a, .int .i64 b, .int .i64 c, .int .i64 d, .int .i64 e], .slice A n cp, .int .i64 s] w fun r w' => ∃ A' c', r = .returned (.tuple #[.slice A' (sealL a b c d e body s).length c', .int .i64 (sealE a b c d e n s)]) ∧ By w' A' (sealL a b c d e body s).length c' (sealL a b c d e body s) ∧ Ext w w' ∧ w'.ownsRow w.heap.size 5 1 (.slice A' (sealL a b c d e body s).length c') (sealL a b c d e body s).length (vb (sealL a b c d e body s)) := by
  have hlen : body.length = n := Bs.len hb
  by_cases h : roomN s = 0 ∨ mayB a b c d e = false
  · have hE := sealE_arg (n := n) h
    rw [sealL_no (by rw [hlen, hE]; omega), hE]
    exact (rseal_arg a b c d e s A n cp w h).mono fun _ w' ⟨h1, h2⟩ => ⟨none, 0, h1, By.nil_ w', h2, World.ownsRow_nil _ _ _ _⟩
  · have h0 : roomN s ≠ 0 := fun hh => h (.inl hh)
    have hm : mayB a b c d e = true := by
      by_cases hm : mayB a b c d e = true
      · exact hm
      · exact absurd (.inr (by simpa using hm)) h
    by_cases hn : roomN s < n
    · have hE := sealE_long h0 hm hn
      rw [sealL_no (by rw [hlen, hE]; omega), hE]
      exact (rseal_long a b c d e s A n cp w h0 hm hn).mono fun _ w' ⟨h1, h2⟩ => ⟨none, 0, h1, By.nil_ w', h2, World.ownsRow_nil _ _ _ _⟩
    · obtain ⟨S, rfl⟩ := Int.eq_ofNat_of_zero_le (show 0 ≤ s by have := roomN_pos (s := s) (by omega); omega)
      have hE := sealE_yes h0 hm (show n ≤ roomN (S : Int) by omega)
      have hfit := room_fits (show n ≤ roomN (S : Int) by omega) (by omega)
      rw [sealL_yes (by rw [hlen]; exact hE), hE, Int.toNat_natCast, frameL_len (by rw [pl_yes hm, tagBytes_len]) (by omega) (by omega)]
      exact rseal_yes_own a b c d e S A n cp body w hb h0 hm (by omega)
theorem rseal_any (a b c d e s : Int) (A : Option Addr) (n cp : Nat) (body : List Nat) (w : World) (hb : By w A n cp body) :
    Calls Tryz.prog 39 #[.agg #[.int .i64 a, .int .i64 b, .int .i64 c, .int .i64 d, .int .i64 e], .slice A n cp, .int .i64 s] w fun r w' => ∃ A' c', r = .returned (.tuple #[.slice A' (sealL a b c d e body s).length c', .int .i64 (sealE a b c d e n s)]) ∧ By w' A' (sealL a b c d e body s).length c' (sealL a b c d e body s) ∧ Ext w w' :=
  (rseal_own a b c d e s A n cp body w hb).mono fun _ _ ⟨A', c', h1, h2, h3, _⟩ => ⟨A', c', h1, h2, h3⟩
end Go.Proofs.YtlikhmhomkiadaaGreatDoor

namespace Go.Proofs.YtlikhmhomkiadaaGreatDoor
set_option maxRecDepth 100000
open Go Go.RowKit

theorem u8_size (w : World) : (sizeOf (Tryz.prog.elem 34)).run Tryz.prog w = .ok 1 w := by
  have ht : Tryz.prog.elem 34 = 5 := by kernel_rfl
  obtain ⟨i0, hi, _, hz1, _⟩ := info_parts byte_info
  rw [ht]
  simp [Go.sizeOf, typeInfo, hi, hz1]
theorem cut_mid (g o n cp l h : Nat) (hl : l < cp) (hlh : l ≤ h) (hh : h ≤ cp) (w : World) : (Instr.slice 34 (.slice (some ⟨g, o, none⟩) n cp) (some (.int .i64 (l : Int))) (some (.int .i64 (h : Int))) none).run Tryz.prog w = .ok (.slice (some ⟨g, o + l, none⟩) (h - l) (cp - l)) w := by
  have ht : Tryz.prog.elem 34 = 5 := by kernel_rfl
  rw [run_slice_lh w 34 (some ⟨g, o, none⟩) n cp (by rw [ht]; exact Tryz.underlying34) .i64 .i64 (l : Int) (h : Int) (by omega) (by omega) (by omega), u8_size]
  simp only [Result.andThen, sliced, Int.toNat_natCast, Nat.mul_one]
  rw [if_neg (by omega)]
  simp [Addr.add]

end Go.Proofs.YtlikhmhomkiadaaGreatDoor
