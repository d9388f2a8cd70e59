/-
  The contract of the frame's Mine.
  The contract of the program's Wide and sectors.
  The contracts of the tag functions that reckon sectors: start, First, All, Where.
-/
import Derived.Test.YtlikhmhomkiadaaGreatDoorQ14
import Derived.Test.YtlikhmhomkiadaaGreatDoorQ21
namespace Go.Proofs.YtlikhmhomkiadaaGreatDoor
set_option maxRecDepth 100000
open Go Go.RowKit

/-- What Mine answers. -/
def mineB (l : List Nat) (x y z : Int) : Bool := goodB l && (decide ((ofl l 0 : Int) = x) && (decide ((ofl l 1 : Int) = y) && decide ((ofl l 2 : Int) = z)))
def stM (l : List Nat) (x y z : Int) : Nat := if goodB l = true then (if mineB l x y z = true then 1 else 2) else stN l
def mfl (l : List Nat) (x y z : Int) (k : Nat) : Nat := if mineB l x y z = true then ofl l k else 0
def mbl (l : List Nat) (x y z : Int) : List Nat := if mineB l x y z = true then obl l else []
theorem mineB_bad {l : List Nat} {x y z : Int} (h : goodB l = false) : mineB l x y z = false := by unfold mineB; rw [h]; rfl
theorem mine_bad {l : List Nat} {x y z : Int} (h : goodB l = false) : stM l x y z = stN l ∧ (∀ k, mfl l x y z k = ofl l k) ∧ mbl l x y z = obl l := by
  refine ⟨by unfold stM; rw [if_neg (by rw [h]; simp)], fun k => ?_, ?_⟩
  · unfold mfl; rw [if_neg (by rw [mineB_bad h]; simp), ofl_no h]
  · unfold mbl; rw [if_neg (by rw [mineB_bad h]; simp), obl_no h]
theorem mine_yes {l : List Nat} {x y z : Int} (h : goodB l = true) (hm : mineB l x y z = true) : stM l x y z = 1 ∧ (∀ k, mfl l x y z k = ofl l k) ∧ mbl l x y z = obl l := by
  refine ⟨by unfold stM; rw [if_pos h, if_pos hm], fun k => ?_, ?_⟩
  · unfold mfl; rw [if_pos hm]
  · unfold mbl; rw [if_pos hm]
theorem mine_no {l : List Nat} {x y z : Int} (h : goodB l = true) (hm : mineB l x y z = false) : stM l x y z = 2 ∧ (∀ k, mfl l x y z k = 0) ∧ mbl l x y z = [] := by
  refine ⟨by unfold stM; rw [if_pos h, if_neg (by rw [hm]; simp)], fun k => ?_, ?_⟩
  · unfold mfl; rw [if_neg (by rw [hm]; simp)]
  · unfold mbl; rw [if_neg (by rw [hm]; simp)]
theorem mineB_iff {l : List Nat} {x y z : Int} (h : goodB l = true) : mineB l x y z = true ↔ (ofl l 0 : Int) = x ∧ (ofl l 1 : Int) = y ∧ (ofl l 2 : Int) = z := by
  unfold mineB
  rw [h]
  simp

theorem By.far {W V : World} {A : Option Addr} {n c h0 : Nat} {l : List Nat} (h : By W A n c l) (hne : ∀ g o, A = some ⟨g, o, none⟩ → 0 < n → h0 ≠ g) (hk : ∀ g k, h0 ≠ g → V.cell? ⟨g, k, none⟩ = W.cell? ⟨g, k, none⟩) (hs : W.heap.size ≤ V.heap.size) : By V A n c l := by
  refine ⟨h.len, h.cap, h.most, ⟨h.rd.lt, fun hn => ?_⟩, Bs.nil_ h⟩
  obtain ⟨g, o, e, hg, hc⟩ := h.rd.2 hn
  have hne' := hne g o e (by have := h.len; omega)
  exact ⟨g, o, e, by omega, fun j x hx => (hk g (o + j) hne').trans (hc j x hx)⟩
theorem five_size (w : World) (g : Nat) (x0 x1 x2 x3 x4 : Value) : w.heap.size ≤ (((((w.setCell ⟨g, 0, none⟩ x0).setCell ⟨g, 1, none⟩ x1).setCell ⟨g, 2, none⟩ x2).setCell ⟨g, 3, none⟩ x3).setCell ⟨g, 4, none⟩ x4).heap.size := by
  simp [World.setCell]
/-- What is known of a piece over a tag that is stored elsewhere. -/
theorem By.five {W : World} {A : Option Addr} {n c h0 : Nat} {l : List Nat} (h : By W A n c l) (hne : ∀ g o, A = some ⟨g, o, none⟩ → 0 < n → h0 ≠ g) (x0 x1 x2 x3 x4 : Value) :
    By (((((W.setCell ⟨h0, 0, none⟩ x0).setCell ⟨h0, 1, none⟩ x1).setCell ⟨h0, 2, none⟩ x2).setCell ⟨h0, 3, none⟩ x3).setCell ⟨h0, 4, none⟩ x4) A n c l :=
  h.far hne (fun _ _ hg => five_far hg _ _ _ _ _) (five_size _ _ _ _ _ _ _)
theorem Piece.ge {B : Nat} {w' : World} {A' : Option Addr} {N n : Nat} {l : List Nat} (h : Piece B w' A' N n l) : ∀ g o, A' = some ⟨g, o, none⟩ → 0 < N → B ≤ g := by
  intro g o e hN
  obtain ⟨g', c', e', _, ho⟩ := h hN
  rw [e] at e'
  injection e' with e'
  injection e' with e1 _
  subst e1
  exact (ho.lt g rfl).1
theorem Piece.ne {B : Nat} {w' : World} {A' : Option Addr} {N n h0 : Nat} {l : List Nat} (h : Piece B w' A' N n l) (hb : h0 < B) : ∀ g o, A' = some ⟨g, o, none⟩ → 0 < N → h0 ≠ g := by
  intro g o e hN
  obtain ⟨g', c', e', _, ho⟩ := h hN
  rw [e] at e'
  injection e' with e'
  injection e' with e1 _
  subst e1
  have := (ho.lt g rfl).1
  omega

set_option maxRecDepth 100000 in
set_option maxHeartbeats 6400000 in
theorem mine_own (A : Option Addr) (n cp : Nat) (l : List Nat) (x y z : Int) (w : World) (hL : LaidF w) (hb : By w A n cp l) :
    Calls Tryz.prog 60 #[.slice A n cp, .int .i64 x, .int .i64 y, .int .i64 z] w fun r w' => ∃ A' N, r = .returned (.tuple #[.int .u8 (stM l x y z), .agg #[.int .i64 (mfl l x y z 0), .int .i64 (mfl l x y z 1), .int .i64 (mfl l x y z 2), .int .i64 (mfl l x y z 3), .int .i64 (mfl l x y z 4)], .slice A' N N]) ∧ By w' A' N N (mbl l x y z) ∧ (∀ g o, A' = some ⟨g, o, none⟩ → 0 < N → w.heap.size ≤ g) ∧ Ext w w' := by
  have hz := heap_alloc_new w (.cells #[.int .i64 0, .int .i64 0, .int .i64 0, .int .i64 0, .int .i64 0] 33)
  have hE := (Ext.refl w).alloc (.cells #[.int .i64 0, .int .i64 0, .int .i64 0, .int .i64 0, .int .i64 0] 33)
  have HB := Lib.hid hb
  have HL := Lib.hid hL
  have HE := Lib.hid hE
  have HZ := Lib.hid hz
  clear hb hL hE hz
  go_enter Tryz.func60, Tryz.ntmps60
  go_wp2_with fail
  refine (open_any A n cp l _ (HL.out.ext HE.out) (HB.out.ext HE.out)).mono ?_
  rintro r w1 ⟨A1, N, rfl, hb1, hpc, hx⟩
  have hz1 := (hx.block _ (Array.getElem?_eq_some_iff.1 HZ.out).1).trans HZ.out
  have HE := Lib.hid (HE.out.trans hx)
  have HZ := Lib.hid hz1
  have HB1 := Lib.hid hb1
  obtain ⟨⟨c0, c1, c2, c3, c4⟩, f0, f1, f2, f3, f4⟩ := five_cells hz1
  have HNE := Lib.hid (hpc.ne (h0 := w.heap.size) (by simp))
  have HGE : Hid (∀ g o, A1 = some ⟨g, o, none⟩ → 0 < N → w.heap.size ≤ g) := Lib.hid fun g o hA hN => Nat.le_trans (by simp) (hpc.ge g o hA hN)
  clear hx hz1 hb1 hpc
  by_cases hg : goodB l = true
  · have HST : Hid (stN l = 1) := Lib.hid (stN_good hg)
    rw [HST.out]
    by_cases hm : mineB l x y z = true
    · obtain ⟨e1, e2, e3⟩ := mine_yes hg hm
      have HR : Hid (stM l x y z = 1 ∧ (∀ k, mfl l x y z k = ofl l k) ∧ mbl l x y z = obl l) := Lib.hid ⟨e1, e2, e3⟩
      obtain ⟨rfl, rfl, rfl⟩ := (mineB_iff hg).1 hm
      clear e1 e2 e3 hg hm
      go_wp2_with fail
      have hrow := five_row HZ.out (.int .i64 (ofl l 0)) (.int .i64 (ofl l 1)) (.int .i64 (ofl l 2)) (.int .i64 (ofl l 3)) (.int .i64 (ofl l 4))
      have hx := five_ext HE.out (Nat.le_refl _) (.int .i64 (ofl l 0)) (.int .i64 (ofl l 1)) (.int .i64 (ofl l 2)) (.int .i64 (ofl l 3)) (.int .i64 (ofl l 4))
      have hby := HB1.out.five HNE.out (.int .i64 (ofl l 0)) (.int .i64 (ofl l 1)) (.int .i64 (ofl l 2)) (.int .i64 (ofl l 3)) (.int .i64 (ofl l 4))
      clear c0 c1 c2 c3 c4 f0 f1 f2 f3 f4
      generalize (((((w1.setCell ⟨w.heap.size, 0, none⟩ (.int .i64 (ofl l 0))).setCell ⟨w.heap.size, 1, none⟩ (.int .i64 (ofl l 1))).setCell ⟨w.heap.size, 2, none⟩ (.int .i64 (ofl l 2))).setCell ⟨w.heap.size, 3, none⟩ (.int .i64 (ofl l 3))).setCell ⟨w.heap.size, 4, none⟩ (.int .i64 (ofl l 4))) = W at *
      generalize hh0 : w.heap.size = h0 at *
      obtain ⟨⟨d0, d1, d2, d3, d4⟩, f0, f1, f2, f3, f4⟩ := five_cells hrow
      have HZ := Lib.hid hrow
      have HE := Lib.hid hx
      have HB1 := Lib.hid hby
      have HN0 := Lib.hid hh0
      clear hh0 hrow hx hby
      go_region_held3 (fun w' => w'.cell? ⟨h0, 0, none⟩ = some (.int .i64 (ofl l 0)) ∧ w'.cell? ⟨h0, 1, none⟩ = some (.int .i64 (ofl l 1)) ∧ w'.cell? ⟨h0, 2, none⟩ = some (.int .i64 (ofl l 2)) ∧ w'.cell? ⟨h0, 3, none⟩ = some (.int .i64 (ofl l 3)) ∧ w'.cell? ⟨h0, 4, none⟩ = some (.int .i64 (ofl l 4)))
        (first | with_reducible exact ⟨d0, d1, d2, d3, d4⟩ | with_reducible exact five_near_drew HZ.out _ _ _ _ _ | go_keep)
        (first | (go_at_call 0; fail))
      have hrow := five_row HZ.out (.int .i64 (ofl l 0)) (.int .i64 (ofl l 1)) (.int .i64 (ofl l 2)) (.int .i64 (ofl l 3)) (.int .i64 (ofl l 4))
      have hx := five_ext HE.out (g := h0) (Nat.le_of_eq HN0.out) (.int .i64 (ofl l 0)) (.int .i64 (ofl l 1)) (.int .i64 (ofl l 2)) (.int .i64 (ofl l 3)) (.int .i64 (ofl l 4))
      have hby := HB1.out.five HNE.out (.int .i64 (ofl l 0)) (.int .i64 (ofl l 1)) (.int .i64 (ofl l 2)) (.int .i64 (ofl l 3)) (.int .i64 (ofl l 4))
      clear d0 d1 d2 d3 d4 f0 f1 f2 f3 f4
      generalize (((((W.setCell ⟨h0, 0, none⟩ (.int .i64 (ofl l 0))).setCell ⟨h0, 1, none⟩ (.int .i64 (ofl l 1))).setCell ⟨h0, 2, none⟩ (.int .i64 (ofl l 2))).setCell ⟨h0, 3, none⟩ (.int .i64 (ofl l 3))).setCell ⟨h0, 4, none⟩ (.int .i64 (ofl l 4))) = V at hrow hx hby ⊢
      obtain ⟨⟨e0, e1, e2, e3, e4⟩, _⟩ := five_cells hrow
      have HB1 := Lib.hid (hby.ext ((Ext.refl V).drew))
      have HX := Lib.hid hx.drew
      clear hrow hx hby
      go_wp2_with fail
      refine bodyPost_ret (v := .tuple #[.int .u8 1, .agg #[.int .i64 (ofl l 0), .int .i64 (ofl l 1), .int .i64 (ofl l 2), .int .i64 (ofl l 3), .int .i64 (ofl l 4)], .slice A1 N N]) ?_ rfl ?_
      · simp [results, Tryz.results60, go_sem, e0, e1, e2, e3, e4]
      · exact ⟨A1, N, by rw [HR.out.1, HR.out.2.1, HR.out.2.1, HR.out.2.1, HR.out.2.1, HR.out.2.1]; rfl, by rw [HR.out.2.2]; exact HB1.out, by rw [HN0.out]; exact HGE.out, HX.out⟩
    · have hm' : mineB l x y z = false := by simpa using hm
      obtain ⟨e1, e2, e3⟩ := mine_no hg hm'
      have HR : Hid (stM l x y z = 2 ∧ (∀ k, mfl l x y z k = 0) ∧ mbl l x y z = []) := Lib.hid ⟨e1, e2, e3⟩
      rw [mineB_iff hg] at hm
      clear e1 e2 e3 hm'
      by_cases h0 : (ofl l 0 : Int) = x
      · by_cases h1 : (ofl l 1 : Int) = y
        · have h2 : ¬ (ofl l 2 : Int) = z := fun h => hm ⟨h0, h1, h⟩
          subst h0; subst h1
          have g2 : ((ofl l 2 : Int) != z) = true := by simpa using h2
          clear hm hg h2
          have hz2 := five_row HZ.out (.int .i64 (ofl l 0)) (.int .i64 (ofl l 1)) (.int .i64 (ofl l 2)) (.int .i64 (ofl l 3)) (.int .i64 (ofl l 4))
          have hz3 := five_row hz2 (.int .i64 0) (.int .i64 0) (.int .i64 0) (.int .i64 0) (.int .i64 0)
          have hx := five_ext HE.out (Nat.le_refl _) (.int .i64 (ofl l 0)) (.int .i64 (ofl l 1)) (.int .i64 (ofl l 2)) (.int .i64 (ofl l 3)) (.int .i64 (ofl l 4))
          have hx3 := five_ext hx (Nat.le_refl _) (.int .i64 0) (.int .i64 0) (.int .i64 0) (.int .i64 0) (.int .i64 0)
          have HZ3 := Lib.hid hz3
          have HX3 := Lib.hid hx3
          clear hz2 hz3 hx hx3
          go_wp2_with fail
          have hz3 := HZ3.out
          have hx3 := HX3.out
          generalize ((((((((((w1.setCell ⟨w.heap.size, 0, none⟩ (.int .i64 (ofl l 0))).setCell ⟨w.heap.size, 1, none⟩ (.int .i64 (ofl l 1))).setCell ⟨w.heap.size, 2, none⟩ (.int .i64 (ofl l 2))).setCell ⟨w.heap.size, 3, none⟩ (.int .i64 (ofl l 3))).setCell ⟨w.heap.size, 4, none⟩ (.int .i64 (ofl l 4))).setCell ⟨w.heap.size, 0, none⟩ (.int .i64 0)).setCell ⟨w.heap.size, 1, none⟩ (.int .i64 0)).setCell ⟨w.heap.size, 2, none⟩ (.int .i64 0)).setCell ⟨w.heap.size, 3, none⟩ (.int .i64 0)).setCell ⟨w.heap.size, 4, none⟩ (.int .i64 0)) = V at hz3 hx3 ⊢
          obtain ⟨⟨e0, e1, e2, e3, e4⟩, _⟩ := five_cells hz3
          refine bodyPost_ret (v := .tuple #[.int .u8 2, .agg #[.int .i64 0, .int .i64 0, .int .i64 0, .int .i64 0, .int .i64 0], .slice none 0 0]) ?_ rfl ?_
          · simp [results, Tryz.results60, go_sem, e0, e1, e2, e3, e4]
          · exact ⟨none, 0, by rw [HR.out.1, HR.out.2.1, HR.out.2.1, HR.out.2.1, HR.out.2.1, HR.out.2.1]; rfl, by rw [HR.out.2.2]; exact By.nil_ _, fun g o hA hN => absurd hN (by omega), hx3⟩
        · subst h0
          have g1 : ((ofl l 1 : Int) != y) = true := by simpa using h1
          clear hm hg h1
          have hz2 := five_row HZ.out (.int .i64 (ofl l 0)) (.int .i64 (ofl l 1)) (.int .i64 (ofl l 2)) (.int .i64 (ofl l 3)) (.int .i64 (ofl l 4))
          have hz3 := five_row hz2 (.int .i64 0) (.int .i64 0) (.int .i64 0) (.int .i64 0) (.int .i64 0)
          have hx := five_ext HE.out (Nat.le_refl _) (.int .i64 (ofl l 0)) (.int .i64 (ofl l 1)) (.int .i64 (ofl l 2)) (.int .i64 (ofl l 3)) (.int .i64 (ofl l 4))
          have hx3 := five_ext hx (Nat.le_refl _) (.int .i64 0) (.int .i64 0) (.int .i64 0) (.int .i64 0) (.int .i64 0)
          have HZ3 := Lib.hid hz3
          have HX3 := Lib.hid hx3
          clear hz2 hz3 hx hx3
          go_wp2_with fail
          have hz3 := HZ3.out
          have hx3 := HX3.out
          generalize ((((((((((w1.setCell ⟨w.heap.size, 0, none⟩ (.int .i64 (ofl l 0))).setCell ⟨w.heap.size, 1, none⟩ (.int .i64 (ofl l 1))).setCell ⟨w.heap.size, 2, none⟩ (.int .i64 (ofl l 2))).setCell ⟨w.heap.size, 3, none⟩ (.int .i64 (ofl l 3))).setCell ⟨w.heap.size, 4, none⟩ (.int .i64 (ofl l 4))).setCell ⟨w.heap.size, 0, none⟩ (.int .i64 0)).setCell ⟨w.heap.size, 1, none⟩ (.int .i64 0)).setCell ⟨w.heap.size, 2, none⟩ (.int .i64 0)).setCell ⟨w.heap.size, 3, none⟩ (.int .i64 0)).setCell ⟨w.heap.size, 4, none⟩ (.int .i64 0)) = V at hz3 hx3 ⊢
          obtain ⟨⟨e0, e1, e2, e3, e4⟩, _⟩ := five_cells hz3
          refine bodyPost_ret (v := .tuple #[.int .u8 2, .agg #[.int .i64 0, .int .i64 0, .int .i64 0, .int .i64 0, .int .i64 0], .slice none 0 0]) ?_ rfl ?_
          · simp [results, Tryz.results60, go_sem, e0, e1, e2, e3, e4]
          · exact ⟨none, 0, by rw [HR.out.1, HR.out.2.1, HR.out.2.1, HR.out.2.1, HR.out.2.1, HR.out.2.1]; rfl, by rw [HR.out.2.2]; exact By.nil_ _, fun g o hA hN => absurd hN (by omega), hx3⟩
      · have g0 : ((ofl l 0 : Int) != x) = true := by simpa using h0
        clear hm hg h0
        have hz2 := five_row HZ.out (.int .i64 (ofl l 0)) (.int .i64 (ofl l 1)) (.int .i64 (ofl l 2)) (.int .i64 (ofl l 3)) (.int .i64 (ofl l 4))
        have hz3 := five_row hz2 (.int .i64 0) (.int .i64 0) (.int .i64 0) (.int .i64 0) (.int .i64 0)
        have hx := five_ext HE.out (Nat.le_refl _) (.int .i64 (ofl l 0)) (.int .i64 (ofl l 1)) (.int .i64 (ofl l 2)) (.int .i64 (ofl l 3)) (.int .i64 (ofl l 4))
        have hx3 := five_ext hx (Nat.le_refl _) (.int .i64 0) (.int .i64 0) (.int .i64 0) (.int .i64 0) (.int .i64 0)
        have HZ3 := Lib.hid hz3
        have HX3 := Lib.hid hx3
        clear hz2 hz3 hx hx3
        go_wp2_with fail
        have hz3 := HZ3.out
        have hx3 := HX3.out
        generalize ((((((((((w1.setCell ⟨w.heap.size, 0, none⟩ (.int .i64 (ofl l 0))).setCell ⟨w.heap.size, 1, none⟩ (.int .i64 (ofl l 1))).setCell ⟨w.heap.size, 2, none⟩ (.int .i64 (ofl l 2))).setCell ⟨w.heap.size, 3, none⟩ (.int .i64 (ofl l 3))).setCell ⟨w.heap.size, 4, none⟩ (.int .i64 (ofl l 4))).setCell ⟨w.heap.size, 0, none⟩ (.int .i64 0)).setCell ⟨w.heap.size, 1, none⟩ (.int .i64 0)).setCell ⟨w.heap.size, 2, none⟩ (.int .i64 0)).setCell ⟨w.heap.size, 3, none⟩ (.int .i64 0)).setCell ⟨w.heap.size, 4, none⟩ (.int .i64 0)) = V at hz3 hx3 ⊢
        obtain ⟨⟨e0, e1, e2, e3, e4⟩, _⟩ := five_cells hz3
        refine bodyPost_ret (v := .tuple #[.int .u8 2, .agg #[.int .i64 0, .int .i64 0, .int .i64 0, .int .i64 0, .int .i64 0], .slice none 0 0]) ?_ rfl ?_
        · simp [results, Tryz.results60, go_sem, e0, e1, e2, e3, e4]
        · exact ⟨none, 0, by rw [HR.out.1, HR.out.2.1, HR.out.2.1, HR.out.2.1, HR.out.2.1, HR.out.2.1]; rfl, by rw [HR.out.2.2]; exact By.nil_ _, fun g o hA hN => absurd hN (by omega), hx3⟩
  · have hg' : goodB l = false := by simpa using hg
    obtain ⟨e1, e2, e3⟩ := mine_bad (x := x) (y := y) (z := z) hg'
    have HR : Hid (stM l x y z = stN l ∧ (∀ k, mfl l x y z k = ofl l k) ∧ mbl l x y z = obl l) := Lib.hid ⟨e1, e2, e3⟩
    have hst : ¬ stN l = 1 := fun h => hg (stN_one.1 h)
    have g0 : ((stN l : Int) == 1) = false := by simp; omega
    clear e1 e2 e3 hg hg' hst
    generalize stN l = st at *
    go_wp2_with fail
    have hrow := five_row HZ.out (.int .i64 (ofl l 0)) (.int .i64 (ofl l 1)) (.int .i64 (ofl l 2)) (.int .i64 (ofl l 3)) (.int .i64 (ofl l 4))
    have hx := five_ext HE.out (Nat.le_refl _) (.int .i64 (ofl l 0)) (.int .i64 (ofl l 1)) (.int .i64 (ofl l 2)) (.int .i64 (ofl l 3)) (.int .i64 (ofl l 4))
    have hby := HB1.out.five HNE.out (.int .i64 (ofl l 0)) (.int .i64 (ofl l 1)) (.int .i64 (ofl l 2)) (.int .i64 (ofl l 3)) (.int .i64 (ofl l 4))
    clear c0 c1 c2 c3 c4 f0 f1 f2 f3 f4
    generalize (((((w1.setCell ⟨w.heap.size, 0, none⟩ (.int .i64 (ofl l 0))).setCell ⟨w.heap.size, 1, none⟩ (.int .i64 (ofl l 1))).setCell ⟨w.heap.size, 2, none⟩ (.int .i64 (ofl l 2))).setCell ⟨w.heap.size, 3, none⟩ (.int .i64 (ofl l 3))).setCell ⟨w.heap.size, 4, none⟩ (.int .i64 (ofl l 4))) = W at *
    generalize hh0 : w.heap.size = h0 at *
    obtain ⟨⟨d0, d1, d2, d3, d4⟩, f0, f1, f2, f3, f4⟩ := five_cells hrow
    have HZ := Lib.hid hrow
    have HE := Lib.hid hx
    have HB1 := Lib.hid hby
    have HN0 := Lib.hid hh0
    clear hh0 hrow hx hby
    go_region_held3 (fun w' => w'.cell? ⟨h0, 0, none⟩ = some (.int .i64 (ofl l 0)) ∧ w'.cell? ⟨h0, 1, none⟩ = some (.int .i64 (ofl l 1)) ∧ w'.cell? ⟨h0, 2, none⟩ = some (.int .i64 (ofl l 2)) ∧ w'.cell? ⟨h0, 3, none⟩ = some (.int .i64 (ofl l 3)) ∧ w'.cell? ⟨h0, 4, none⟩ = some (.int .i64 (ofl l 4)))
      (first | with_reducible exact ⟨d0, d1, d2, d3, d4⟩ | with_reducible exact five_near_drew HZ.out _ _ _ _ _ | go_keep)
      (first | (go_at_call 0; fail))
    have hrow := five_row HZ.out (.int .i64 (ofl l 0)) (.int .i64 (ofl l 1)) (.int .i64 (ofl l 2)) (.int .i64 (ofl l 3)) (.int .i64 (ofl l 4))
    have hx := five_ext HE.out (g := h0) (Nat.le_of_eq HN0.out) (.int .i64 (ofl l 0)) (.int .i64 (ofl l 1)) (.int .i64 (ofl l 2)) (.int .i64 (ofl l 3)) (.int .i64 (ofl l 4))
    have hby := HB1.out.five HNE.out (.int .i64 (ofl l 0)) (.int .i64 (ofl l 1)) (.int .i64 (ofl l 2)) (.int .i64 (ofl l 3)) (.int .i64 (ofl l 4))
    clear d0 d1 d2 d3 d4 f0 f1 f2 f3 f4
    generalize (((((W.setCell ⟨h0, 0, none⟩ (.int .i64 (ofl l 0))).setCell ⟨h0, 1, none⟩ (.int .i64 (ofl l 1))).setCell ⟨h0, 2, none⟩ (.int .i64 (ofl l 2))).setCell ⟨h0, 3, none⟩ (.int .i64 (ofl l 3))).setCell ⟨h0, 4, none⟩ (.int .i64 (ofl l 4))) = V at hrow hx hby ⊢
    obtain ⟨⟨e0, e1, e2, e3, e4⟩, _⟩ := five_cells hrow
    have HB1 := Lib.hid (hby.ext ((Ext.refl V).drew))
    have HX := Lib.hid hx.drew
    clear hrow hx hby
    go_wp2_with fail
    refine bodyPost_ret (v := .tuple #[.int .u8 st, .agg #[.int .i64 (ofl l 0), .int .i64 (ofl l 1), .int .i64 (ofl l 2), .int .i64 (ofl l 3), .int .i64 (ofl l 4)], .slice A1 N N]) ?_ rfl ?_
    · simp [results, Tryz.results60, go_sem, e0, e1, e2, e3, e4]
    · exact ⟨A1, N, by rw [HR.out.1, HR.out.2.1, HR.out.2.1, HR.out.2.1, HR.out.2.1, HR.out.2.1], by rw [HR.out.2.2]; exact HB1.out, by rw [HN0.out]; exact HGE.out, HX.out⟩
theorem mine_any (A : Option Addr) (n cp : Nat) (l : List Nat) (x y z : Int) (w : World) (hL : LaidF w) (hb : By w A n cp l) :
    Calls Tryz.prog 60 #[.slice A n cp, .int .i64 x, .int .i64 y, .int .i64 z] w fun r w' => ∃ A' N, r = .returned (.tuple #[.int .u8 (stM l x y z), .agg #[.int .i64 (mfl l x y z 0), .int .i64 (mfl l x y z 1), .int .i64 (mfl l x y z 2), .int .i64 (mfl l x y z 3), .int .i64 (mfl l x y z 4)], .slice A' N N]) ∧ By w' A' N N (mbl l x y z) ∧ Ext w w' :=
  (mine_own A n cp l x y z w hL hb).mono fun _ _ ⟨A', N, h1, h2, _, h4⟩ => ⟨A', N, h1, h2, h4⟩
end Go.Proofs.YtlikhmhomkiadaaGreatDoor

namespace Go.Proofs.YtlikhmhomkiadaaGreatDoor
set_option maxRecDepth 100000
open Go Go.RowKit

theorem sectors_any (p q : Nat) (w : World) (h : p * q ≤ 9000000000000000000) :
    Calls Tryz.prog 116 #[.agg #[.int .i64 p, .int .i64 q]] w fun e w' => e = .returned (.int .i64 (p * q : Nat)) ∧ Ext w w' := by
  have h' : ((p : Int) * (q : Int)) = ((p * q : Nat) : Int) := by simp
  have HM := Lib.hid h'
  have h0 : (0 : Int) ≤ (p : Int) * (q : Int) := by rw [h']; omega
  have h1 : (p : Int) * (q : Int) ≤ 9000000000000000000 := by rw [h']; omega
  clear h h'
  go_enter Tryz.func116, Tryz.ntmps116
  go_wp2
  go_ret
  exact ⟨by rw [← HM.out]; rfl, (Ext.refl w).alloc _⟩

theorem wide_any (r : Int) (w : World) (hL : LaidT w) :
    Calls Tryz.prog 50 #[.int .i64 r] w fun e w' => e = .returned (.int .i64 (wid r)) ∧ Ext w w' := by
  have HL := Lib.hid hL
  have hf := area_field1
  clear hL
  go_enter Tryz.func50, Tryz.ntmps50
  go_wp2_with fail
  refine (find_any r _ HL.out).mono ?_
  rintro e w1 ⟨rfl, hx⟩
  have HX := Lib.hid hx
  clear hx
  go_wp2_with fail
  go_ret
  exact ⟨rfl, HX.out⟩
end Go.Proofs.YtlikhmhomkiadaaGreatDoor

namespace Go.Proofs.YtlikhmhomkiadaaGreatDoor
set_option maxRecDepth 100000
open Go Go.RowKit

set_option maxHeartbeats 800000 in
theorem start_any (r : Nat) (w : World) (hL : LaidT w) (hr : r ≤ 6) :
    Calls Tryz.prog 101 #[.int .i64 r] w fun e w' => e = .returned (.int .i64 (beg r)) ∧ Ext w w' := by
  have HL := Lib.hid hL
  clear hL
  go_enter Tryz.func101, Tryz.ntmps101
  go_wp2_with fail
  go_loopw [3, 6] (fun b i wr => ∃ k : Nat, k ≤ r ∧ i = .int .i64 k ∧ b = .int .i64 (beg k) ∧ Hid (Ext w wr)) (fun _ i _ => r - (intOf i).toNat)
  case atStart => exact ⟨0, Nat.zero_le _, rfl, rfl, Lib.hid (Ext.refl w)⟩
  case round =>
    obtain ⟨k, hk, rfl, rfl, HX⟩ := hrel
    by_cases hlt : k < r
    · have HB := Lib.hid (beg_next k (by omega))
      have hb := beg_le k
      have hp := plc_wid k
      go_wp2_with fail
      refine (find_any k _ (HL.out.ext HX.out)).mono ?_
      rintro e w1 ⟨rfl, hx⟩
      have HX := Lib.hid (HX.out.trans hx)
      clear hx
      go_wp2_with fail
      refine (sectors_any _ _ _ (by omega)).mono ?_
      rintro e w2 ⟨rfl, hx⟩
      have HX := Lib.hid (HX.out.trans hx)
      clear hx
      go_wp2_with fail
      go_roundw
      case rel => exact ⟨k + 1, by omega, by go_num, by rw [show ((k + 1 : Nat) : Int) = (k : Int) + 1 from rfl, HB.out]; go_num, HX⟩
      case measure => simp [intOf]; omega
    · have HK : Hid (k = r) := Lib.hid (by omega)
      go_wp2_with fail
      go_ret
      exact ⟨by rw [HK.out]; rfl, HX.out⟩

theorem all_any (w : World) (hL : LaidT w) :
    Calls Tryz.prog 57 #[] w fun e w' => e = .returned (.int .i64 156) ∧ Ext w w' := by
  have HL := Lib.hid hL
  clear hL
  go_enter Tryz.func57, Tryz.ntmps57
  go_wp2_with fail
  refine (start_any 6 _ HL.out (by omega)).mono ?_
  rintro e w1 ⟨rfl, hx⟩
  have HX := Lib.hid hx
  clear hx
  go_wp2_with fail
  go_ret
  exact ⟨rfl, HX.out⟩

theorem first_any (r p : Int) (w : World) (hL : LaidT w) :
    Calls Tryz.prog 42 #[.int .i64 r, .int .i64 p] w fun e w' => e = .returned (.int .i64 (firstS r p)) ∧ Ext w w' := by
  have HL := Lib.hid hL
  clear hL
  by_cases h0 : p < 0
  · have HF := Lib.hid (firstS_no (r := r) (p := p) (by omega))
    go_enter Tryz.func42, Tryz.ntmps42
    go_wp2_with fail
    go_ret
    exact ⟨by rw [HF.out]; rfl, Ext.refl w⟩
  by_cases h1 : (plc r : Int) ≤ p
  · have HF := Lib.hid (firstS_no (r := r) (p := p) (by omega))
    go_enter Tryz.func42, Tryz.ntmps42
    go_wp2_with fail
    refine (places_any r _ HL.out).mono ?_
    rintro e w1 ⟨rfl, hx⟩
    have HX := Lib.hid hx
    clear hx
    go_wp2_with fail
    go_ret
    exact ⟨by rw [HF.out]; rfl, HX.out⟩
  have hr := plc_some (r := r) (by omega)
  obtain ⟨r, rfl⟩ := Int.eq_ofNat_of_zero_le (show 0 ≤ r by omega)
  have HF := Lib.hid (firstS_yes (r := r) (p := p) (by omega))
  have hb := beg_le r
  have hpl := plc_le r
  have hw0 := wid_le r
  have h2 : 0 ≤ p * (wid r : Int) := Int.mul_nonneg (by omega) (by omega)
  have h3 : p * (wid r : Int) ≤ 48 * 2 := Int.mul_le_mul (by omega) (by omega) (by omega) (by omega)
  go_enter Tryz.func42, Tryz.ntmps42
  go_wp2_with fail
  refine (places_any r _ HL.out).mono ?_
  rintro e w1 ⟨rfl, hx⟩
  have HX := Lib.hid hx
  clear hx
  go_wp2_with fail
  refine (start_any r _ (HL.out.ext HX.out) (by omega)).mono ?_
  rintro e w2 ⟨rfl, hx⟩
  have HX := Lib.hid (HX.out.trans hx)
  clear hx
  go_wp2_with fail
  refine (wide_any r _ (HL.out.ext HX.out)).mono ?_
  rintro e w3 ⟨rfl, hx⟩
  have HX := Lib.hid (HX.out.trans hx)
  clear hx
  go_wp2_with fail
  go_ret
  exact ⟨by rw [HF.out]; rfl, HX.out⟩
end Go.Proofs.YtlikhmhomkiadaaGreatDoor
