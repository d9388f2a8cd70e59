/-
  The contract of the frame's Mine.
-/
import Derived.Test.YtgcinagkbdcgiaaGreatDoorM00
import Derived.Test.YtgcinagkbdcgiaaGreatDoorM01
import Derived.Test.YtgcinagkbdcgiaaGreatDoorM06
import Derived.Test.YtgcinagkbdcgiaaGreatDoorM07
import Derived.Test.YtgcinagkbdcgiaaGreatDoorM09
import Derived.Test.YtgcinagkbdcgiaaGreatDoorM10
namespace Go.Proofs.YtgcinagkbdcgiaaGreatDoor
set_option maxRecDepth 100000
section
open Go Go.RowKit
def mineB (l : List Nat) (x y z : Int) : Bool := goodB l && (decide ((ofl l 0 : Int) = x) && (decide ((ofl l 1 : Int) = y) && decide ((ofl l 2 : Int) = z)))
def stM (l : List Nat) (x y z : Int) : Nat := if goodB l = true then (if mineB l x y z = true then 1 else 2) else stN l
def mfl (l : List Nat) (x y z : Int) (k : Nat) : Nat := if mineB l x y z = true then ofl l k else 0
def mbl (l : List Nat) (x y z : Int) : List Nat := if mineB l x y z = true then obl l else []
theorem mineB_bad {l : List Nat} {x y z : Int} (h : goodB l = false) : mineB l x y z = false := by unfold mineB; rw [h]; rfl
theorem mine_bad {l : List Nat} {x y z : Int} (h : goodB l = false) : stM l x y z = stN l ∧ (∀ k, mfl l x y z k = ofl l k) ∧ mbl l x y z = obl l := by
  refine ⟨by unfold stM; rw [if_neg (by rw [h]; simp)], fun k => ?_, ?_⟩
  · unfold mfl; rw [if_neg (by rw [mineB_bad h]; simp), ofl_no h]
  · unfold mbl; rw [if_neg (by rw [mineB_bad h]; simp), obl_no h]
theorem mine_yes {l : List Nat} {x y z : Int} (h : goodB l = true) (hm : mineB l x y z = true) : stM l x y z = 1 ∧ (∀ k, mfl l x y z k = ofl l k) ∧ mbl l x y z = obl l := by
  refine ⟨by unfold stM; rw [if_pos h, if_pos hm], fun k => ?_, ?_⟩
  · unfold mfl; rw [if_pos hm]
  · unfold mbl; rw [if_pos hm]
theorem mine_no {l : List Nat} {x y z : Int} (h : goodB l = true) (hm : mineB l x y z = false) : stM l x y z = 2 ∧ (∀ k, mfl l x y z k = 0) ∧ mbl l x y z = [] := by
  refine ⟨by unfold stM; rw [if_pos h, if_neg (by rw [hm]; simp)], fun k => ?_, ?_⟩
  · unfold mfl; rw [if_neg (by rw [hm]; simp)]
  · unfold mbl; rw [if_neg (by rw [hm]; simp)]
theorem mineB_iff {l : List Nat} {x y z : Int} (h : goodB l = true) : mineB l x y z = true ↔ (ofl l 0 : Int) = x ∧ (ofl l 1 : Int) = y ∧ (ofl l 2 : Int) = z := by
  unfold mineB
  rw [h]
  simp
theorem By.far {W V : World} {A : Option Addr} {n c h0 : Nat} {l : List Nat} (h : By W A n c l) (hne : ∀ g o, A = some ⟨g, o, none⟩ → 0 < n → h0 ≠ g) (hk : ∀ g k, h0 ≠ g → V.cell? ⟨g, k, none⟩ = W.cell? ⟨g, k, none⟩) (hs : W.heap.size ≤ V.heap.size) : By V A n c l := by
  refine ⟨h.len, h.cap, h.most, ⟨h.rd.lt, fun hn => ?_⟩, Bs.nil_ h⟩
  obtain ⟨g, o, e, hg, hc⟩ := h.rd.2 hn
  have hne' := hne g o e (by have := h.len; omega)
  exact ⟨g, o, e, by omega, fun j x hx => (hk g (o + j) hne').trans (hc j x hx)⟩
theorem five_size (w : World) (g : Nat) (x0 x1 x2 x3 x4 : Value) : w.heap.size ≤ (((((w.setCell ⟨g, 0, none⟩ x0).setCell ⟨g, 1, none⟩ x1).setCell ⟨g, 2, none⟩ x2).setCell ⟨g, 3, none⟩ x3).setCell ⟨g, 4, none⟩ x4).heap.size := by
  simp [World.setCell]
theorem By.five {W : World} {A : Option Addr} {n c h0 : Nat} {l : List Nat} (h : By W A n c l) (hne : ∀ g o, A = some ⟨g, o, none⟩ → 0 < n → h0 ≠ g) (x0 x1 x2 x3 x4 : Value) :
    By (((((W.setCell ⟨h0, 0, none⟩ x0).setCell ⟨h0, 1, none⟩ x1).setCell ⟨h0, 2, none⟩ x2).setCell ⟨h0, 3, none⟩ x3).setCell ⟨h0, 4, none⟩ x4) A n c l :=
  h.far hne (fun _ _ hg => five_far hg _ _ _ _ _) (five_size _ _ _ _ _ _ _)
theorem Piece.ge {B : Nat} {w' : World} {A' : Option Addr} {N n : Nat} {l : List Nat} (h : Piece B w' A' N n l) : ∀ g o, A' = some ⟨g, o, none⟩ → 0 < N → B ≤ g := by
  intro g o e hN
  obtain ⟨g', c', e', _, ho⟩ := h hN
  rw [e] at e'
  injection e' with e'
  injection e' with e1 _
  subst e1
  exact (ho.lt g rfl).1
theorem Piece.ne {B : Nat} {w' : World} {A' : Option Addr} {N n h0 : Nat} {l : List Nat} (h : Piece B w' A' N n l) (hb : h0 < B) : ∀ g o, A' = some ⟨g, o, none⟩ → 0 < N → h0 ≠ g := by
  intro g o e hN
  obtain ⟨g', c', e', _, ho⟩ := h hN
  rw [e] at e'
  injection e' with e'
  injection e' with e1 _
  subst e1
  have := (ho.lt g rfl).1
  omega
set_option maxHeartbeats 6400000 in
theorem mine_own (A : Option Addr) (n cp : Nat) (l : List Nat) (x y z : Int) (w : World) (hL : LaidF w) (hb : By w A n cp l) :
    Calls Tryz.prog 203 #[.slice A n cp, .int .i64 x, .int .i64 y, .int .i64 z] w fun r w' => ∃ A' N, r = .returned (.tuple #[.int .u8 (stM l x y z), .agg #[.int .i64 (mfl l x y z 0), .int .i64 (mfl l x y z 1), .int .i64 (mfl l x y z 2), .int .i64 (mfl l x y z 3), .int .i64 (mfl l x y z 4)], .slice A' N N]) ∧ By w' A' N N (mbl l x y z) ∧ (∀ g o, A' = some ⟨g, o, none⟩ → 0 < N → w.heap.size ≤ g) ∧ Ext w w' := by
  have hz := heap_alloc_new w (.cells #[.int .i64 0, .int .i64 0, .int .i64 0, .int .i64 0, .int .i64 0] 44)
  have hE := (Ext.refl w).alloc (.cells #[.int .i64 0, .int .i64 0, .int .i64 0, .int .i64 0, .int .i64 0] 44)
  have HB := Lib.hid hb
  have HL := Lib.hid hL
  have HE := Lib.hid hE
  have HZ := Lib.hid hz
  clear hb hL hE hz
  go_enter Tryz.func203, Tryz.ntmps203
  go_wp2_with fail
  refine (open_any A n cp l _ (HL.out.ext HE.out) (HB.out.ext HE.out)).mono ?_
  rintro r w1 ⟨A1, N, rfl, hb1, hpc, hx⟩
  have hz1 := (hx.block _ (Array.getElem?_eq_some_iff.1 HZ.out).1).trans HZ.out
  have HE := Lib.hid (HE.out.trans hx)
  have HZ := Lib.hid hz1
  have HB1 := Lib.hid hb1
  obtain ⟨⟨c0, c1, c2, c3, c4⟩, f0, f1, f2, f3, f4⟩ := five_cells hz1
  have HNE := Lib.hid (hpc.ne (h0 := w.heap.size) (by simp))
  have HGE : Hid (∀ g o, A1 = some ⟨g, o, none⟩ → 0 < N → w.heap.size ≤ g) := Lib.hid fun g o hA hN => Nat.le_trans (by simp) (hpc.ge g o hA hN)
  clear hx hz1 hb1 hpc
  by_cases hg : goodB l = true
  · have HST : Hid (stN l = 1) := Lib.hid (stN_good hg)
    rw [HST.out]
    by_cases hm : mineB l x y z = true
    · obtain ⟨e1, e2, e3⟩ := mine_yes hg hm
      have HR : Hid (stM l x y z = 1 ∧ (∀ k, mfl l x y z k = ofl l k) ∧ mbl l x y z = obl l) := Lib.hid ⟨e1, e2, e3⟩
      obtain ⟨rfl, rfl, rfl⟩ := (mineB_iff hg).1 hm
      clear e1 e2 e3 hg hm
      go_wp2_with fail
      have hrow := five_row HZ.out (.int .i64 (ofl l 0)) (.int .i64 (ofl l 1)) (.int .i64 (ofl l 2)) (.int .i64 (ofl l 3)) (.int .i64 (ofl l 4))
      have hx := five_ext HE.out (Nat.le_refl _) (.int .i64 (ofl l 0)) (.int .i64 (ofl l 1)) (.int .i64 (ofl l 2)) (.int .i64 (ofl l 3)) (.int .i64 (ofl l 4))
      have hby := HB1.out.five HNE.out (.int .i64 (ofl l 0)) (.int .i64 (ofl l 1)) (.int .i64 (ofl l 2)) (.int .i64 (ofl l 3)) (.int .i64 (ofl l 4))
      clear c0 c1 c2 c3 c4 f0 f1 f2 f3 f4
      generalize (((((w1.setCell ⟨w.heap.size, 0, none⟩ (.int .i64 (ofl l 0))).setCell ⟨w.heap.size, 1, none⟩ (.int .i64 (ofl l 1))).setCell ⟨w.heap.size, 2, none⟩ (.int .i64 (ofl l 2))).setCell ⟨w.heap.size, 3, none⟩ (.int .i64 (ofl l 3))).setCell ⟨w.heap.size, 4, none⟩ (.int .i64 (ofl l 4))) = W at *
      generalize hh0 : w.heap.size = h0 at *
      obtain ⟨⟨d0, d1, d2, d3, d4⟩, f0, f1, f2, f3, f4⟩ := five_cells hrow
      have HZ := Lib.hid hrow
      have HE := Lib.hid hx
      have HB1 := Lib.hid hby
      have HN0 := Lib.hid hh0
      clear hh0 hrow hx hby
      go_region_held3 (fun w' => w'.cell? ⟨h0, 0, none⟩ = some (.int .i64 (ofl l 0)) ∧ w'.cell? ⟨h0, 1, none⟩ = some (.int .i64 (ofl l 1)) ∧ w'.cell? ⟨h0, 2, none⟩ = some (.int .i64 (ofl l 2)) ∧ w'.cell? ⟨h0, 3, none⟩ = some (.int .i64 (ofl l 3)) ∧ w'.cell? ⟨h0, 4, none⟩ = some (.int .i64 (ofl l 4)))
        (first | with_reducible exact ⟨d0, d1, d2, d3, d4⟩ | with_reducible exact five_near_drew HZ.out _ _ _ _ _ | go_keep)
        (first | (go_at_call 0; fail))
      have hrow := five_row HZ.out (.int .i64 (ofl l 0)) (.int .i64 (ofl l 1)) (.int .i64 (ofl l 2)) (.int .i64 (ofl l 3)) (.int .i64 (ofl l 4))
      have hx := five_ext HE.out (g := h0) (Nat.le_of_eq HN0.out) (.int .i64 (ofl l 0)) (.int .i64 (ofl l 1)) (.int .i64 (ofl l 2)) (.int .i64 (ofl l 3)) (.int .i64 (ofl l 4))
      have hby := HB1.out.five HNE.out (.int .i64 (ofl l 0)) (.int .i64 (ofl l 1)) (.int .i64 (ofl l 2)) (.int .i64 (ofl l 3)) (.int .i64 (ofl l 4))
      clear d0 d1 d2 d3 d4 f0 f1 f2 f3 f4
      generalize (((((W.setCell ⟨h0, 0, none⟩ (.int .i64 (ofl l 0))).setCell ⟨h0, 1, none⟩ (.int .i64 (ofl l 1))).setCell ⟨h0, 2, none⟩ (.int .i64 (ofl l 2))).setCell ⟨h0, 3, none⟩ (.int .i64 (ofl l 3))).setCell ⟨h0, 4, none⟩ (.int .i64 (ofl l 4))) = V at hrow hx hby ⊢
      obtain ⟨⟨e0, e1, e2, e3, e4⟩, _⟩ := five_cells hrow
      have HB1 := Lib.hid (hby.ext ((Ext.refl V).drew))
      have HX := Lib.hid hx.drew
      clear hrow hx hby
      go_wp2_with fail
      refine bodyPost_ret (v := .tuple #[.int .u8 1, .agg #[.int .i64 (ofl l 0), .int .i64 (ofl l 1), .int .i64 (ofl l 2), .int .i64 (ofl l 3), .int .i64 (ofl l 4)], .slice A1 N N]) ?_ rfl ?_
      · simp [results, Tryz.results203, go_sem, e0, e1, e2, e3, e4]
      · exact ⟨A1, N, by rw [HR.out.1, HR.out.2.1, HR.out.2.1, HR.out.2.1, HR.out.2.1, HR.out.2.1]; rfl, by rw [HR.out.2.2]; exact HB1.out, by rw [HN0.out]; exact HGE.out, HX.out⟩
    · have hm' : mineB l x y z = false := by simpa using hm
      obtain ⟨e1, e2, e3⟩ := mine_no hg hm'
      have HR : Hid (stM l x y z = 2 ∧ (∀ k, mfl l x y z k = 0) ∧ mbl l x y z = []) := Lib.hid ⟨e1, e2, e3⟩
      rw [mineB_iff hg] at hm
      clear e1 e2 e3 hm'
      by_cases h0 : (ofl l 0 : Int) = x
      · by_cases h1 : (ofl l 1 : Int) = y
        · have h2 : ¬ (ofl l 2 : Int) = z := fun h => hm ⟨h0, h1, h⟩
          subst h0; subst h1
          have g2 : ((ofl l 2 : Int) != z) = true := by simpa using h2
          clear hm hg h2
          have hz2 := five_row HZ.out (.int .i64 (ofl l 0)) (.int .i64 (ofl l 1)) (.int .i64 (ofl l 2)) (.int .i64 (ofl l 3)) (.int .i64 (ofl l 4))
          have hz3 := five_row hz2 (.int .i64 0) (.int .i64 0) (.int .i64 0) (.int .i64 0) (.int .i64 0)
          have hx := five_ext HE.out (Nat.le_refl _) (.int .i64 (ofl l 0)) (.int .i64 (ofl l 1)) (.int .i64 (ofl l 2)) (.int .i64 (ofl l 3)) (.int .i64 (ofl l 4))
          have hx3 := five_ext hx (Nat.le_refl _) (.int .i64 0) (.int .i64 0) (.int .i64 0) (.int .i64 0) (.int .i64 0)
          have HZ3 := Lib.hid hz3
          have HX3 := Lib.hid hx3
          clear hz2 hz3 hx hx3
          go_wp2_with fail
          have hz3 := HZ3.out
          have hx3 := HX3.out
          generalize ((((((((((w1.setCell ⟨w.heap.size, 0, none⟩ (.int .i64 (ofl l 0))).setCell ⟨w.heap.size, 1, none⟩ (.int .i64 (ofl l 1))).setCell ⟨w.heap.size, 2, none⟩ (.int .i64 (ofl l 2))).setCell ⟨w.heap.size, 3, none⟩ (.int .i64 (ofl l 3))).setCell ⟨w.heap.size, 4, none⟩ (.int .i64 (ofl l 4))).setCell ⟨w.heap.size, 0, none⟩ (.int .i64 0)).setCell ⟨w.heap.size, 1, none⟩ (.int .i64 0)).setCell ⟨w.heap.size, 2, none⟩ (.int .i64 0)).setCell ⟨w.heap.size, 3, none⟩ (.int .i64 0)).setCell ⟨w.heap.size, 4, none⟩ (.int .i64 0)) = V at hz3 hx3 ⊢
          obtain ⟨⟨e0, e1, e2, e3, e4⟩, _⟩ := five_cells hz3
          refine bodyPost_ret (v := .tuple #[.int .u8 2, .agg #[.int .i64 0, .int .i64 0, .int .i64 0, .int .i64 0, .int .i64 0], .slice none 0 0]) ?_ rfl ?_
          · simp [results, Tryz.results203, go_sem, e0, e1, e2, e3, e4]
          · exact ⟨none, 0, by rw [HR.out.1, HR.out.2.1, HR.out.2.1, HR.out.2.1, HR.out.2.1, HR.out.2.1]; rfl, by rw [HR.out.2.2]; exact By.nil_ _, fun g o hA hN => absurd hN (by omega), hx3⟩
        · subst h0
          have g1 : ((ofl l 1 : Int) != y) = true := by simpa using h1
          clear hm hg h1
          have hz2 := five_row HZ.out (.int .i64 (ofl l 0)) (.int .i64 (ofl l 1)) (.int .i64 (ofl l 2)) (.int .i64 (ofl l 3)) (.int .i64 (ofl l 4))
          have hz3 := five_row hz2 (.int .i64 0) (.int .i64 0) (.int .i64 0) (.int .i64 0) (.int .i64 0)
          have hx := five_ext HE.out (Nat.le_refl _) (.int .i64 (ofl l 0)) (.int .i64 (ofl l 1)) (.int .i64 (ofl l 2)) (.int .i64 (ofl l 3)) (.int .i64 (ofl l 4))
          have hx3 := five_ext hx (Nat.le_refl _) (.int .i64 0) (.int .i64 0) (.int .i64 0) (.int .i64 0) (.int .i64 0)
          have HZ3 := Lib.hid hz3
          have HX3 := Lib.hid hx3
          clear hz2 hz3 hx hx3
          go_wp2_with fail
          have hz3 := HZ3.out
          have hx3 := HX3.out
          generalize ((((((((((w1.setCell ⟨w.heap.size, 0, none⟩ (.int .i64 (ofl l 0))).setCell ⟨w.heap.size, 1, none⟩ (.int .i64 (ofl l 1))).setCell ⟨w.heap.size, 2, none⟩ (.int .i64 (ofl l 2))).setCell ⟨w.heap.size, 3, none⟩ (.int .i64 (ofl l 3))).setCell ⟨w.heap.size, 4, none⟩ (.int .i64 (ofl l 4))).setCell ⟨w.heap.size, 0, none⟩ (.int .i64 0)).setCell ⟨w.heap.size, 1, none⟩ (.int .i64 0)).setCell ⟨w.heap.size, 2, none⟩ (.int .i64 0)).setCell ⟨w.heap.size, 3, none⟩ (.int .i64 0)).setCell ⟨w.heap.size, 4, none⟩ (.int .i64 0)) = V at hz3 hx3 ⊢
          obtain ⟨⟨e0, e1, e2, e3, e4⟩, _⟩ := five_cells hz3
          refine bodyPost_ret (v := .tuple #[.int .u8 2, .agg #[.int .i64 0, .int .i64 0, .int .i64 0, .int .i64 0, .int .i64 0], .slice none 0 0]) ?_ rfl ?_
          · simp [results, Tryz.results203, go_sem, e0, e1, e2, e3, e4]
          · exact ⟨none, 0, by rw [HR.out.1, HR.out.2.1, HR.out.2.1, HR.out.2.1, HR.out.2.1, HR.out.2.1]; rfl, by rw [HR.out.2.2]; exact By.nil_ _, fun g o hA hN => absurd hN (by omega), hx3⟩
      · have g0 : ((ofl l 0 : Int) != x) = true := by simpa using h0
        clear hm hg h0
        have hz2 := five_row HZ.out (.int .i64 (ofl l 0)) (.int .i64 (ofl l 1)) (.int .i64 (ofl l 2)) (.int .i64 (ofl l 3)) (.int .i64 (ofl l 4))
        have hz3 := five_row hz2 (.int .i64 0) (.int .i64 0) (.int .i64 0) (.int .i64 0) (.int .i64 0)
        have hx := five_ext HE.out (Nat.le_refl _) (.int .i64 (ofl l 0)) (.int .i64 (ofl l 1)) (.int .i64 (ofl l 2)) (.int .i64 (ofl l 3)) (.int .i64 (ofl l 4))
        have hx3 := five_ext hx (Nat.le_refl _) (.int .i64 0) (.int .i64 0) (.int .i64 0) (.int .i64 0) (.int .i64 0)
        have HZ3 := Lib.hid hz3
        have HX3 := Lib.hid hx3
        clear hz2 hz3 hx hx3
        go_wp2_with fail
        have hz3 := HZ3.out
        have hx3 := HX3.out
        generalize ((((((((((w1.setCell ⟨w.heap.size, 0, none⟩ (.int .i64 (ofl l 0))).setCell ⟨w.heap.size, 1, none⟩ (.int .i64 (ofl l 1))).setCell ⟨w.heap.size, 2, none⟩ (.int .i64 (ofl l 2))).setCell ⟨w.heap.size, 3, none⟩ (.int .i64 (ofl l 3))).setCell ⟨w.heap.size, 4, none⟩ (.int .i64 (ofl l 4))).setCell ⟨w.heap.size, 0, none⟩ (.int .i64 0)).setCell ⟨w.heap.size, 1, none⟩ (.int .i64 0)).setCell ⟨w.heap.size, 2, none⟩ (.int .i64 0)).setCell ⟨w.heap.size, 3, none⟩ (.int .i64 0)).setCell ⟨w.heap.size, 4, none⟩ (.int .i64 0)) = V at hz3 hx3 ⊢
        obtain ⟨⟨e0, e1, e2, e3, e4⟩, _⟩ := five_cells hz3
        refine bodyPost_ret (v := .tuple #[.int .u8 2, .agg #[.int .i64 0, .int .i64 0, .int .i64 0, .int .i64 0, .int .i64 0], .slice none 0 0]) ?_ rfl ?_
        · simp [results, Tryz.results203, go_sem, e0, e1, e2, e3, e4]
        · exact ⟨none, 0, by rw [HR.out.1, HR.out.2.1, HR.out.2.1, HR.out.2.1, HR.out.2.1, HR.out.2.1]; rfl, by rw [HR.out.2.2]; exact By.nil_ _, fun g o hA hN => absurd hN (by omega), hx3⟩
  · have hg' : goodB l = false := by simpa using hg
    obtain ⟨e1, e2, e3⟩ := mine_bad (x := x) (y := y) (z := z) hg'
    have HR : Hid (stM l x y z = stN l ∧ (∀ k, mfl l x y z k = ofl l k) ∧ mbl l x y z = obl l) := Lib.hid ⟨e1, e2, e3⟩
    have hst : ¬ stN l = 1 := fun h => hg (stN_one.1 h)
    have g0 : ((stN l : Int) == 1) = false := by simp; omega
    clear e1 e2 e3 hg hg' hst
    generalize stN l = st at *
    go_wp2_with fail
    have hrow := five_row HZ.out (.int .i64 (ofl l 0)) (.int .i64 (ofl l 1)) (.int .i64 (ofl l 2)) (.int .i64 (ofl l 3)) (.int .i64 (ofl l 4))
    have hx := five_ext HE.out (Nat.le_refl _) (.int .i64 (ofl l 0)) (.int .i64 (ofl l 1)) (.int .i64 (ofl l 2)) (.int .i64 (ofl l 3)) (.int .i64 (ofl l 4))
    have hby := HB1.out.five HNE.out (.int .i64 (ofl l 0)) (.int .i64 (ofl l 1)) (.int .i64 (ofl l 2)) (.int .i64 (ofl l 3)) (.int .i64 (ofl l 4))
    clear c0 c1 c2 c3 c4 f0 f1 f2 f3 f4
    generalize (((((w1.setCell ⟨w.heap.size, 0, none⟩ (.int .i64 (ofl l 0))).setCell ⟨w.heap.size, 1, none⟩ (.int .i64 (ofl l 1))).setCell ⟨w.heap.size, 2, none⟩ (.int .i64 (ofl l 2))).setCell ⟨w.heap.size, 3, none⟩ (.int .i64 (ofl l 3))).setCell ⟨w.heap.size, 4, none⟩ (.int .i64 (ofl l 4))) = W at *
    generalize hh0 : w.heap.size = h0 at *
    obtain ⟨⟨d0, d1, d2, d3, d4⟩, f0, f1, f2, f3, f4⟩ := five_cells hrow
    have HZ := Lib.hid hrow
    have HE := Lib.hid hx
    have HB1 := Lib.hid hby
    have HN0 := Lib.hid hh0
    clear hh0 hrow hx hby
    go_region_held3 (fun w' => w'.cell? ⟨h0, 0, none⟩ = some (.int .i64 (ofl l 0)) ∧ w'.cell? ⟨h0, 1, none⟩ = some (.int .i64 (ofl l 1)) ∧ w'.cell? ⟨h0, 2, none⟩ = some (.int .i64 (ofl l 2)) ∧ w'.cell? ⟨h0, 3, none⟩ = some (.int .i64 (ofl l 3)) ∧ w'.cell? ⟨h0, 4, none⟩ = some (.int .i64 (ofl l 4)))
      (first | with_reducible exact ⟨d0, d1, d2, d3, d4⟩ | with_reducible exact five_near_drew HZ.out _ _ _ _ _ | go_keep)
      (first | (go_at_call 0; fail))
    have hrow := five_row HZ.out (.int .i64 (ofl l 0)) (.int .i64 (ofl l 1)) (.int .i64 (ofl l 2)) (.int .i64 (ofl l 3)) (.int .i64 (ofl l 4))
    have hx := five_ext HE.out (g := h0) (Nat.le_of_eq HN0.out) (.int .i64 (ofl l 0)) (.int .i64 (ofl l 1)) (.int .i64 (ofl l 2)) (.int .i64 (ofl l 3)) (.int .i64 (ofl l 4))
    have hby := HB1.out.five HNE.out (.int .i64 (ofl l 0)) (.int .i64 (ofl l 1)) (.int .i64 (ofl l 2)) (.int .i64 (ofl l 3)) (.int .i64 (ofl l 4))
    clear d0 d1 d2 d3 d4 f0 f1 f2 f3 f4
    generalize (((((W.setCell ⟨h0, 0, none⟩ (.int .i64 (ofl l 0))).setCell ⟨h0, 1, none⟩ (.int .i64 (ofl l 1))).setCell ⟨h0, 2, none⟩ (.int .i64 (ofl l 2))).setCell ⟨h0, 3, none⟩ (.int .i64 (ofl l 3))).setCell ⟨h0, 4, none⟩ (.int .i64 (ofl l 4))) = V at hrow hx hby ⊢
    obtain ⟨⟨e0, e1, e2, e3, e4⟩, _⟩ := five_cells hrow
    have HB1 := Lib.hid (hby.ext ((Ext.refl V).drew))
    have HX := Lib.hid hx.drew
    clear hrow hx hby
    go_wp2_with fail
    refine bodyPost_ret (v := .tuple #[.int .u8 st, .agg #[.int .i64 (ofl l 0), .int .i64 (ofl l 1), .int .i64 (ofl l 2), .int .i64 (ofl l 3), .int .i64 (ofl l 4)], .slice A1 N N]) ?_ rfl ?_
    · simp [results, Tryz.results203, go_sem, e0, e1, e2, e3, e4]
    · exact ⟨A1, N, by rw [HR.out.1, HR.out.2.1, HR.out.2.1, HR.out.2.1, HR.out.2.1, HR.out.2.1], by rw [HR.out.2.2]; exact HB1.out, by rw [HN0.out]; exact HGE.out, HX.out⟩
theorem mine_any (A : Option Addr) (n cp : Nat) (l : List Nat) (x y z : Int) (w : World) (hL : LaidF w) (hb : By w A n cp l) :
    Calls Tryz.prog 203 #[.slice A n cp, .int .i64 x, .int .i64 y, .int .i64 z] w fun r w' => ∃ A' N, r = .returned (.tuple #[.int .u8 (stM l x y z), .agg #[.int .i64 (mfl l x y z 0), .int .i64 (mfl l x y z 1), .int .i64 (mfl l x y z 2), .int .i64 (mfl l x y z 3), .int .i64 (mfl l x y z 4)], .slice A' N N]) ∧ By w' A' N N (mbl l x y z) ∧ Ext w w' :=
  (mine_own A n cp l x y z w hL hb).mono fun _ _ ⟨A', N, h1, h2, _, h4⟩ => ⟨A', N, h1, h2, h4⟩
end
section
def knownC (sz : Nat) (r g : Int) : Int := if sz = 0 then 1 else if sz < 156 ∨ (g ≠ 1 ∧ g ≠ 2) ∨ r < 0 ∨ 7 ≤ r then 2 else 0
theorem knownC_ok {sz : Nat} {r g : Int} (h : knownC sz r g = 0) : 156 ≤ sz ∧ (g = 1 ∨ g = 2) ∧ 0 ≤ r ∧ r < 7 := by
  unfold knownC at h
  split at h
  · cases h
  · split at h
    · cases h
    · omega
def pickP (b0 b1 : Bool) : Int := if b0 = true then 0 else if b1 = true then 1 else -1
def lead0 (r g : Int) (x y : List Nat) : Bool := decide (stM x r g 0 = 1) && decide (mfl y r g 1 3 ≤ mfl x r g 0 3)
def lead1 (r g : Int) (x y : List Nat) : Bool := decide (stM y r g 1 = 1) && decide (mfl x r g 0 3 ≤ mfl y r g 1 3)
def atC (r g : Int) (x y : List Nat) : Int := pickP (lead0 r g x y) (lead1 r g x y)
def blankC (r g : Int) (x y : List Nat) : Int := pickP (decide (stM x r g 0 = 0)) (decide (stM y r g 1 = 0))
def cellE (r g : Int) (x y : List Nat) : Int := if atC r g x y = -1 ∧ blankC r g x y = -1 then 70 else 0
def cellF (r g : Int) (x y : List Nat) (k : Nat) : Nat := if atC r g x y = 0 then mfl x r g 0 k else if atC r g x y = 1 then mfl y r g 1 k else 0
def cellB (r g : Int) (x y : List Nat) : List Nat := if atC r g x y = 0 then mbl x r g 0 else if atC r g x y = 1 then mbl y r g 1 else []
theorem atC_cases (r g : Int) (x y : List Nat) : atC r g x y = 0 ∨ atC r g x y = 1 ∨ atC r g x y = -1 := by
  unfold atC pickP
  (repeat' split) <;> simp
def DM.cb (m : DM) (g p : Int) : List Nat := (m.read (firstS g p)).1
def DM.loadE (m : DM) (r g : Int) : Int := if m.up = false then 5 else cellE r g (m.cb g 0) (m.cb g 1)
def DM.loadV (m : DM) (r g : Int) : Nat := if m.loadE r g = 0 then cellF r g (m.cb g 0) (m.cb g 1) 3 else 0
def DM.loadB (m : DM) (r g : Int) : List Nat := if m.loadE r g = 0 then cellB r g (m.cb g 0) (m.cb g 1) else []
def DM.putC (m : DM) (s : Int) (L : List Nat) : Int × DM := if (m.write s L).1 ≠ 0 then m.write s L else (m.write s L).2.flush
def sameC (r g : Int) (x y : List Nat) : Bool := if atC r g x y = 0 then decide (stM y r g 1 = 1) && (decide (mfl y r g 1 3 = mfl x r g 0 3) && decide (mbl y r g 1 = mbl x r g 0)) else decide (stM x r g 0 = 1) && (decide (mfl x r g 0 3 = mfl y r g 1 3) && decide (mbl x r g 0 = mbl y r g 1))
def otherP (p : Int) : Int := 1 - p
def sealC (r g p : Int) (i c : Nat) (b : List Nat) : List Nat := sealL r g p (i : Int) (c : Int) b 1
def DM.heal (m : DM) (r g : Int) : Int × DM :=
  if m.loadE r g ≠ 0 then (m.loadE r g, m) else if atC r g (m.cb g 0) (m.cb g 1) = -1 ∨ sameC r g (m.cb g 0) (m.cb g 1) = true then (0, m) else
    m.putC (firstS g (otherP (atC r g (m.cb g 0) (m.cb g 1)))) (sealC r g (otherP (atC r g (m.cb g 0) (m.cb g 1))) (cellF r g (m.cb g 0) (m.cb g 1) 3) (cellF r g (m.cb g 0) (m.cb g 1) 4) (cellB r g (m.cb g 0) (m.cb g 1)))
def firstP (r g : Int) (x y : List Nat) : Int := if atC r g x y = 0 then 1 else 0
def DM.puts2 (m : DM) (r g p : Int) (i c : Nat) (b : List Nat) : Int × DM :=
  if (m.putC (firstS g p) (sealC r g p i c b)).1 ≠ 0 then m.putC (firstS g p) (sealC r g p i c b) else (m.putC (firstS g p) (sealC r g p i c b)).2.putC (firstS g (otherP p)) (sealC r g (otherP p) i c b)
def DM.storeE (m : DM) (r g c : Int) (n : Nat) : Int := if c < 1 ∨ 1099511627776 < c then 2 else if 43 < n then 3 else if m.loadE r g ≠ 0 then m.loadE r g else if m.loadV r g = 1099511627776 then 4 else 0
def DM.store (m : DM) (r g c : Int) (b : List Nat) : Int × DM :=
  if m.storeE r g c b.length ≠ 0 then (m.storeE r g c b.length, m) else m.puts2 r g (firstP r g (m.cb g 0) (m.cb g 1)) (m.loadV r g + 1) c.toNat b
end
section
theorem read_sect {m : DM} (h : m.Ok) (s : Int) : (m.read s).1 = [] ∨ Sect (m.read s).1 := by
  unfold DM.read
  split
  · exact .inl rfl
  · split
    · exact .inl rfl
    · rename_i hh
      have hlt := DM.has_lt hh
      split
      · rename_i b hb
        exact .inr (h.waits _ (lastW_mem hb)).2
      · split
        · exact .inl rfl
        · right
          rw [List.getD_eq_getElem?_getD, List.getElem?_eq_getElem hlt, Option.getD_some]
          exact h.rests _ (List.getElem_mem hlt)
theorem stM_one {l : List Nat} {x y z : Int} (h : stM l x y z = 1) : goodB l = true ∧ mineB l x y z = true := by
  unfold stM at h
  split at h
  · rename_i hg
    split at h
    · rename_i hm
      exact ⟨hg, hm⟩
    · cases h
  · rename_i hg
    exact absurd (stN_one.1 h) hg
theorem mine_copy {x : List Nat} {r g p : Int} (hx : x = [] ∨ Sect x) (h : stM x r g p = 1) :
    ((mfl x r g p 0 : Nat) : Int) = r ∧ ((mfl x r g p 1 : Nat) : Int) = g ∧ ((mfl x r g p 2 : Nat) : Int) = p ∧ mayB r g p (mfl x r g p 3 : Nat) (mfl x r g p 4 : Nat) = true ∧ (mbl x r g p).length ≤ 43 := by
  obtain ⟨hg, hm⟩ := stM_one h
  obtain ⟨_, e2, e3⟩ := mine_yes hg hm
  obtain ⟨h0, h1, h2⟩ := (mineB_iff hg).1 hm
  obtain ⟨hs, hp, hn, hf⟩ := good_parts hg
  have hl : x.length = 64 := by
    rcases hx with rfl | hx
    · simp at hs
    · exact hx.1
  have hmay := may_pf hp
  rw [e2, e2, e2, e2, e2, e3, h0, h1, h2]
  refine ⟨rfl, rfl, rfl, ?_, ?_⟩
  · rw [← h0, ← h1, ← h2, ofl_yes hg, ofl_yes hg, ofl_yes hg, ofl_yes hg, ofl_yes hg]
    exact hmay
  · rw [obl_yes hg]
    have h43 : bodyN x ≤ 43 := by rw [hl] at hn; exact hn
    unfold bodyOf
    rw [List.length_take]
    omega
theorem may_other {r g p q i c : Int} (hg : g = 1 ∨ g = 2) (hq : q = 0 ∨ q = 1) (h : mayB r g p i c = true) : mayB r g q i c = true := by
  rw [mayB_iff] at h ⊢
  have : plc g = 2 := by rcases hg with rfl | rfl <;> rfl
  omega
theorem seal_one {r g p i c : Int} {n : Nat} (h : mayB r g p i c = true) (hn : n ≤ 43) : sealE r g p i c n 1 = 0 := sealE_yes (by decide) h (by rw [roomN_one]; exact hn)
theorem may_store {r g p c : Int} {v : Nat} (hr : 0 ≤ r ∧ r < 7) (hg : g = 1 ∨ g = 2) (hp : p = 0 ∨ p = 1) (hv : v < 1099511627776) (hc : 1 ≤ c ∧ c ≤ 1099511627776) : mayB r g p ((v + 1 : Nat) : Int) c = true := by
  rw [mayB_iff]
  have : plc g = 2 := by rcases hg with rfl | rfl <;> rfl
  omega
theorem atC_zero {r g : Int} {x y : List Nat} (h : atC r g x y = 0) : stM x r g 0 = 1 := by
  unfold atC pickP lead0 at h
  split at h
  · rename_i hh
    rw [Bool.and_eq_true] at hh
    exact of_decide_eq_true hh.1
  · split at h <;> cases h
theorem atC_one {r g : Int} {x y : List Nat} (h : atC r g x y = 1) : stM y r g 1 = 1 := by
  unfold atC pickP lead1 at h
  split at h
  · cases h
  · split at h
    · rename_i hh
      rw [Bool.and_eq_true] at hh
      exact of_decide_eq_true hh.1
    · cases h
theorem loadV_most {m : DM} (h : m.Ok) (r g : Int) : m.loadV r g ≤ 1099511627776 := by
  unfold DM.loadV
  split
  · unfold cellF
    split
    · rename_i ha
      have := (mine_copy (read_sect h _) (atC_zero ha)).2.2.2.1
      rw [mayB_iff] at this
      unfold DM.cb at *
      omega
    · split
      · rename_i ha
        have := (mine_copy (read_sect h _) (atC_one ha)).2.2.2.1
        rw [mayB_iff] at this
        unfold DM.cb at *
        omega
      · omega
  · omega
end
section
def DM.hold (m : DM) (s : Nat) : List Nat := if m.lost.getD s false = true then [] else m.rest.getD s []
structure CB (m : DM) (w : List (Nat × List Nat)) : Prop where
  ok : m.Ok
  size : m.size = 156
  waits : m.waits = w
  down : m.down = false
structure CD (m : DM) (pw : Int) : Prop where
  b : CB m []
  dead : m.dead = false
  power : m.power = pw
theorem CD.up {m : DM} {pw : Int} (h : CD m pw) : m.up = true := by unfold DM.up; rw [h.b.down, h.dead]; rfl
theorem CD.has {m : DM} {pw : Int} (h : CD m pw) {s : Nat} (hs : s < 156) : m.has (s : Int) = true := DM.has_iff.2 ⟨by omega, by rw [h.b.size]; omega⟩
theorem CD.read {m : DM} {pw : Int} (h : CD m pw) {s : Nat} (hs : s < 156) : (m.read (s : Int)).1 = m.hold s := by
  unfold DM.read DM.hold
  rw [if_neg (by rw [h.up]; simp), if_neg (by rw [h.has hs]; simp), h.b.waits, Int.toNat_natCast]
  simp only [lastW]
  split <;> rfl
theorem CD.new : CD (DM.new 156) (-1) := ⟨⟨DM.new_ok 156, by simp [DM.new, DM.size], rfl, rfl⟩, rfl, rfl⟩
theorem getD_rep {α : Type} {n s : Nat} {x d : α} (h : s < n) : (List.replicate n x).getD s d = x := by rw [List.getD_eq_getElem?_getD, List.getElem?_replicate, if_pos h]; rfl
theorem new_hold {s : Nat} (hs : s < 156) : (DM.new 156).hold s = z64 := by
  unfold DM.hold DM.new
  rw [if_neg (by rw [getD_rep hs]; simp), getD_rep hs]
theorem hold_comes {m : DM} (h : m.Ok) {l : List (Nat × List Nat)} (hl : ∀ x ∈ l, x.1 < m.size) (t : Nat) : (m.comes l).hold t = (lastW l t).getD (m.hold t) := by
  obtain ⟨h1, _, h3⟩ := comes_get l m h hl t
  unfold DM.hold
  rw [h1, h3]
  cases lastW l t <;> simp
section
variable {m : DM} {pw : Int} {s : Nat} {L : List Nat}
theorem CD.write0 (h : CD m 0) (hs : s < 156) (hL : Sect L) : m.write (s : Int) L = (5, { m with dead := true }) := by
  unfold DM.write
  rw [if_neg (by rw [h.up]; simp), if_neg (by rw [h.has hs, hL.1]; simp), if_pos h.power]
theorem CD.write1 (h : CD m pw) (hp : pw ≠ 0) (hs : s < 156) (hL : Sect L) : m.write (s : Int) L = (0, { m with power := lessP pw, waits := [(s, L)] }) := by
  unfold DM.write
  rw [if_neg (by rw [h.up]; simp), if_neg (by rw [h.has hs, hL.1]; simp), if_neg (by rw [h.power]; exact hp), h.power, h.b.waits, Int.toNat_natCast]
  rfl
theorem CD.put0 (h : CD m 0) (hs : s < 156) (hL : Sect L) : ∃ m', m.putC (s : Int) L = (5, m') ∧ CB m' [] ∧ ∀ t, m'.hold t = m.hold t := by
  refine ⟨{ m with dead := true }, ?_, ⟨⟨h.b.ok.meant, h.b.ok.lost, h.b.ok.rests, h.b.ok.means, h.b.ok.waits, h.b.ok.power⟩, h.b.size, h.b.waits, h.b.down⟩, fun t => rfl⟩
  unfold DM.putC
  rw [h.write0 hs hL, if_pos (by simp)]
theorem CD.waiting (h : CD m pw) (hs : s < 156) (hL : Sect L) (q : Int) (hq : -1 ≤ q) : ({ m with power := q, waits := [(s, L)] } : DM).Ok :=
  ⟨h.b.ok.meant, h.b.ok.lost, h.b.ok.rests, h.b.ok.means, fun x hx => by
    simp only [List.mem_singleton] at hx
    subst hx
    exact ⟨by show s < m.size; rw [h.b.size]; exact hs, hL⟩, hq⟩
theorem CD.put1 (h : CD m 1) (hs : s < 156) (hL : Sect L) : ∃ m', m.putC (s : Int) L = (5, m') ∧ CB m' [(s, L)] ∧ ∀ t, m'.hold t = m.hold t := by
  have hok := h.waiting hs hL 0 (by omega)
  refine ⟨{ m with power := 0, waits := [(s, L)], dead := true }, ?_, ⟨⟨hok.meant, hok.lost, hok.rests, hok.means, hok.waits, by show (-1 : Int) ≤ 0; omega⟩, h.b.size, rfl, h.b.down⟩, fun t => rfl⟩
  unfold DM.putC
  rw [h.write1 (by omega) hs hL]
  rw [if_neg (by simp)]
  unfold DM.flush
  have hu : ({ m with power := lessP 1, waits := [(s, L)] } : DM).up = true := by unfold DM.up; show (!(m.down || m.dead)) = true; rw [h.b.down, h.dead]; rfl
  rw [if_neg (by rw [hu]; simp), if_pos (by show lessP 1 = 0; rfl)]
  rfl
theorem CD.put2 (h : CD m pw) (hp : pw = -1 ∨ 2 ≤ pw) (hs : s < 156) (hL : Sect L) : ∃ m', m.putC (s : Int) L = (0, m') ∧ CD m' (lessP (lessP pw)) ∧ ∀ t, m'.hold t = if t = s then L else m.hold t := by
  have hp1 : lessP pw = -1 ∨ 1 ≤ lessP pw := by unfold lessP; split <;> omega
  have hu : ({ m with power := lessP pw, waits := [(s, L)] } : DM).up = true := by unfold DM.up; show (!(m.down || m.dead)) = true; rw [h.b.down, h.dead]; rfl
  have hok := h.waiting hs hL (lessP pw) (by omega)
  have hok2 : ({ m with power := lessP (lessP pw), waits := [(s, L)] } : DM).Ok := h.waiting hs hL _ (by unfold lessP at hp1 ⊢; omega)
  obtain ⟨w1, w2, w3, w4⟩ := DM.comes_waits [(s, L)] ({ m with power := lessP (lessP pw), waits := [(s, L)] } : DM)
  refine ⟨{ ({ m with power := lessP (lessP pw), waits := [(s, L)] } : DM).comes [(s, L)] with waits := [] }, ?_, ⟨⟨?_, ?_, rfl, ?_⟩, ?_, ?_⟩, fun t => ?_⟩
  · unfold DM.putC
    rw [h.write1 (by omega) hs hL, if_neg (by simp)]
    unfold DM.flush
    rw [if_neg (by rw [hu]; simp), if_neg (by show ¬ lessP pw = 0; omega)]
  · exact DM.clear_ok (DM.comes_ok _ hok2 fun x hx => (hok2.waits x hx).2)
  · show (DM.comes _ _).size = 156
    rw [DM.comes_size]
    exact h.b.size
  · exact w2.trans h.b.down
  · exact w3.trans h.dead
  · exact w4
  · show (DM.comes _ _).hold t = _
    rw [hold_comes hok2 (fun x hx => (hok2.waits x hx).1)]
    show ((none : Option (List Nat)).or (if s = t then some L else none)).getD _ = _
    by_cases hst : s = t
    · subst hst; simp
    · rw [if_neg hst, if_neg (fun e => hst e.symm)]; rfl
theorem CB.again {w : List (Nat × List Nat)} (h : CB m w) (k : List Bool) : (m.crash k).1 = 0 ∧ (m.crash k).2.start.1 = 0 ∧ CD (m.crash k).2.start.2 (-1) ∧ ∀ t, (m.crash k).2.start.2.hold t = (lastW (kept w k) t).getD (m.hold t) := by
  have hc : m.crash k = (0, { m.comes (kept m.waits k) with waits := [], down := true }) := by unfold DM.crash; rw [if_neg (by rw [h.down]; simp)]
  have hs : ({ m.comes (kept m.waits k) with waits := [], down := true } : DM).start = (0, { ({ m.comes (kept m.waits k) with waits := [], down := true } : DM) with down := false, dead := false, power := -1 }) := by unfold DM.start; rw [if_neg (by simp)]
  have hok := DM.start_ok (DM.crash_ok h.ok k)
  have hl : ∀ x ∈ kept m.waits k, x.1 < m.size := fun x hx => (h.ok.waits x (kept_mem hx)).1
  rw [hc] at hok ⊢
  rw [hs] at hok ⊢
  refine ⟨rfl, rfl, ⟨⟨hok, ?_, rfl, rfl⟩, rfl, rfl⟩, fun t => ?_⟩
  · show (m.comes _).size = 156
    rw [DM.comes_size]
    exact h.size
  · show (m.comes (kept m.waits k)).hold t = _
    rw [hold_comes h.ok hl, h.waits]
end
theorem lastW_oneall (s : Nat) (L : List Nat) (k : List Bool) : (∀ t o, (lastW (kept [(s, L)] k) t).getD o = o) ∨ (∀ t o, (lastW (kept [(s, L)] k) t).getD o = if t = s then L else o) := by
  cases k with
  | nil => exact .inl fun t o => rfl
  | cons b k =>
    cases b with
    | false => left; intro t o; show (lastW (kept [] k) t).getD o = o; simp [kept, lastW]
    | true =>
      right
      intro t o
      show ((lastW (kept [] k) t).or (if s = t then some L else none)).getD o = _
      by_cases h : s = t
      · rw [if_pos h, if_pos h.symm]; simp [kept, lastW]
      · rw [if_neg h, if_neg (fun e => h e.symm)]; simp [kept, lastW]
def DM.two (m : DM) (a b : Nat) (La Lb : List Nat) : Int × DM := if (m.putC (a : Int) La).1 ≠ 0 then m.putC (a : Int) La else (m.putC (a : Int) La).2.putC (b : Int) Lb
inductive Part (m m2 : DM) (a b : Nat) (La Lb : List Nat) : Prop
  | none (h : ∀ t, m2.hold t = m.hold t)
  | one (h : ∀ t, m2.hold t = if t = a then La else m.hold t)
  | both (h : ∀ t, m2.hold t = if t = b then Lb else if t = a then La else m.hold t)
section
variable {m : DM} {pw : Int} {a b : Nat} {La Lb : List Nat}
theorem CD.two_ok (h : CD m pw) (hp : pw = -1 ∨ 4 ≤ pw) (ha : a < 156) (hb : b < 156) (hLa : Sect La) (hLb : Sect Lb) : ∃ m' q, m.two a b La Lb = (0, m') ∧ CD m' q ∧ (pw = -1 → q = -1) ∧ ∀ t, m'.hold t = if t = b then Lb else if t = a then La else m.hold t := by
  obtain ⟨m1, e1, h1, k1⟩ := h.put2 (s := a) (L := La) (by omega) ha hLa
  have hq : lessP (lessP pw) = -1 ∨ 2 ≤ lessP (lessP pw) := by unfold lessP; (repeat' split) <;> omega
  obtain ⟨m2, e2, h2, k2⟩ := h1.put2 (s := b) (L := Lb) hq hb hLb
  refine ⟨m2, _, ?_, h2, fun e => by subst e; rfl, fun t => ?_⟩
  · unfold DM.two
    rw [e1, if_neg (by simp)]
    exact e2
  · rw [k2, k1]
theorem CD.two_power {k : Nat} (h : CD m (k : Int)) (ha : a < 156) (hb : b < 156) (hLa : Sect La) (hLb : Sect Lb) (keep : List Bool) : ((m.two a b La Lb).1 = if k < 4 then 5 else 0) ∧ ((m.two a b La Lb).2.crash keep).1 = 0 ∧ ((m.two a b La Lb).2.crash keep).2.start.1 = 0 ∧
    CD ((m.two a b La Lb).2.crash keep).2.start.2 (-1) ∧ Part m ((m.two a b La Lb).2.crash keep).2.start.2 a b La Lb ∧ (4 ≤ k → ∀ t, ((m.two a b La Lb).2.crash keep).2.start.2.hold t = if t = b then Lb else if t = a then La else m.hold t) := by
  have hk : k = 0 ∨ k = 1 ∨ k = 2 ∨ k = 3 ∨ 4 ≤ k := by omega
  rcases hk with rfl | rfl | rfl | rfl | hk
  · obtain ⟨m1, e1, h1, k1⟩ := CD.put0 (s := a) (L := La) h ha hLa
    have e : m.two a b La Lb = (5, m1) := by unfold DM.two; rw [e1, if_pos (by simp)]
    rw [e]
    obtain ⟨c1, c2, c3, c4⟩ := h1.again keep
    refine ⟨rfl, c1, c2, c3, .none fun t => ?_, fun h => absurd h (by omega)⟩
    rw [c4]
    exact k1 t
  · obtain ⟨m1, e1, h1, k1⟩ := CD.put1 (s := a) (L := La) h ha hLa
    have e : m.two a b La Lb = (5, m1) := by unfold DM.two; rw [e1, if_pos (by simp)]
    rw [e]
    obtain ⟨c1, c2, c3, c4⟩ := h1.again keep
    refine ⟨rfl, c1, c2, c3, ?_, fun h => absurd h (by omega)⟩
    rcases lastW_oneall a La keep with hw | hw
    · exact .none fun t => by rw [c4, hw]; exact k1 t
    · exact .one fun t => by rw [c4, hw, k1]
  · obtain ⟨m1, e1, h1, k1⟩ := h.put2 (s := a) (L := La) (by omega) ha hLa
    have h1 : CD m1 0 := h1
    obtain ⟨m2, e2, h2, k2⟩ := CD.put0 (s := b) (L := Lb) h1 hb hLb
    have e : m.two a b La Lb = (5, m2) := by unfold DM.two; rw [e1, if_neg (by simp)]; exact e2
    rw [e]
    obtain ⟨c1, c2, c3, c4⟩ := h2.again keep
    refine ⟨rfl, c1, c2, c3, .one fun t => ?_, fun h => absurd h (by omega)⟩
    rw [c4, ← k1, ← k2]
    rfl
  · obtain ⟨m1, e1, h1, k1⟩ := h.put2 (s := a) (L := La) (by omega) ha hLa
    have h1 : CD m1 1 := h1
    obtain ⟨m2, e2, h2, k2⟩ := CD.put1 (s := b) (L := Lb) h1 hb hLb
    have e : m.two a b La Lb = (5, m2) := by unfold DM.two; rw [e1, if_neg (by simp)]; exact e2
    rw [e]
    obtain ⟨c1, c2, c3, c4⟩ := h2.again keep
    refine ⟨rfl, c1, c2, c3, ?_, fun h => absurd h (by omega)⟩
    rcases lastW_oneall b Lb keep with hw | hw
    · exact .one fun t => by rw [c4, hw, k2, k1]
    · exact .both fun t => by rw [c4, hw, k2, k1]
  · obtain ⟨m1, q, e, h1, _, k1⟩ := h.two_ok (by omega) ha hb hLa hLb
    rw [e, if_neg (by omega)]
    obtain ⟨c1, c2, c3, c4⟩ := h1.b.again keep
    refine ⟨rfl, c1, c2, c3, .both fun t => ?_, fun _ t => ?_⟩ <;> (rw [c4]; exact k1 t)
end
end
section
def DM.hurt (m : DM) (s : Int) : Bool := (m.at_ s).2.1 || !decide ((m.at_ s).1 = (m.means s).1)
def hurtsIn (h : Int → Bool) (a : Int) (n : Nat) : List Int := ((List.range n).map fun k => a + ((k : Nat) : Int)).filter h
theorem hurtsIn_succ (h : Int → Bool) (a : Int) (n : Nat) : hurtsIn h a (n + 1) = if h (a + (n : Int)) = true then hurtsIn h a n ++ [a + (n : Int)] else hurtsIn h a n := by
  unfold hurtsIn
  rw [List.range_succ, List.map_append, List.filter_append]
  by_cases hh : h (a + (n : Int)) = true
  · simp [hh]
  · simp [hh]
theorem hurtsIn_mem {h : Int → Bool} {a : Int} {n : Nat} {s : Int} : s ∈ hurtsIn h a n ↔ h s = true ∧ a ≤ s ∧ s < a + n := by
  unfold hurtsIn
  rw [List.mem_filter, List.mem_map]
  constructor
  · rintro ⟨⟨k, hk, rfl⟩, hh⟩
    rw [List.mem_range] at hk
    exact ⟨hh, by omega, by omega⟩
  · rintro ⟨hh, h1, h2⟩
    exact ⟨⟨(s - a).toNat, by rw [List.mem_range]; omega, by omega⟩, hh⟩
def anyIn (h : Int → Bool) (a : Int) (n : Nat) : Bool := (List.range n).any fun k => h (a + ((k : Nat) : Int))
theorem anyIn_iff {h : Int → Bool} {a : Int} {n : Nat} : anyIn h a n = true ↔ ∃ s, h s = true ∧ a ≤ s ∧ s < a + n := by
  unfold anyIn
  rw [List.any_eq_true]
  constructor
  · rintro ⟨k, hk, hh⟩
    rw [List.mem_range] at hk
    exact ⟨_, hh, by omega, by omega⟩
  · rintro ⟨s, hh, h1, h2⟩
    refine ⟨(s - a).toNat, by rw [List.mem_range]; omega, ?_⟩
    rw [show a + (((s - a).toNat : Nat) : Int) = s by omega]
    exact hh
theorem anyIn_nil {h : Int → Bool} {a : Int} {n : Nat} : anyIn h a n = !(hurtsIn h a n).isEmpty := by
  rw [Bool.eq_iff_iff, anyIn_iff]
  constructor
  · rintro ⟨s, hs⟩
    have := hurtsIn_mem.2 hs
    cases hl : hurtsIn h a n with
    | nil => rw [hl] at this; cases this
    | cons x l => rfl
  · intro hh
    cases hl : hurtsIn h a n with
    | nil => rw [hl] at hh; cases hh
    | cons x l => exact ⟨x, hurtsIn_mem.1 (by rw [hl]; simp)⟩
theorem anyIn_zero (h : Int → Bool) (a : Int) : anyIn h a 0 = false := rfl
theorem anyIn_succ (h : Int → Bool) (a : Int) (n : Nat) : anyIn h a (n + 1) = (anyIn h a n || h (a + (n : Int))) := by
  unfold anyIn
  rw [List.range_succ, List.any_append]
  simp
def catS (f : Int → List Nat) (a : Int) : Nat → List Nat
  | 0 => []
  | n + 1 => catS f a n ++ f (a + (n : Int))
def DM.restL (m : DM) (a : Int) (n : Nat) : List Nat := catS (fun s => (m.at_ s).1) a n
def DM.lostB (m : DM) (a : Int) (n : Nat) : Bool := anyIn (fun s => (m.at_ s).2.1) a n
theorem at_sect {m : DM} (h : m.Ok) (s : Int) : (m.at_ s).1 = [] ∨ Sect (m.at_ s).1 := by
  unfold DM.at_
  split
  · exact .inl rfl
  · rename_i hh
    split
    · exact .inl rfl
    · right
      have hlt := DM.has_lt hh
      rw [List.getD_eq_getElem?_getD, List.getElem?_eq_getElem hlt, Option.getD_some]
      exact h.rests _ (List.getElem_mem hlt)
theorem sect_lt {b : List Nat} (h : b = [] ∨ Sect b) : ∀ x ∈ b, x < 256 := by
  rcases h with rfl | h
  · intro x hx; cases hx
  · exact h.2
theorem sect_len {b : List Nat} (h : b = [] ∨ Sect b) : b.length ≤ 64 := by
  rcases h with rfl | h
  · simp
  · rw [h.1]; omega
theorem unhurt {m : DM} {s : Int} (h : m.hurt s = false) : (m.at_ s).2.1 = false ∧ (m.at_ s).1 = (m.means s).1 := by
  unfold DM.hurt at h
  rw [Bool.or_eq_false_iff] at h
  exact ⟨h.1, by simpa using h.2⟩
def knownG (sz : Nat) (r : Int) : Int := if sz = 0 then 1 else if sz < 156 ∨ r < 0 ∨ 7 ≤ r then 2 else 0
def placeG (sz : Nat) (r g p : Int) : Int := if knownG sz r ≠ 0 then knownG sz r else if firstS g p < 0 then 2 else 0
theorem placeG_ok {sz : Nat} {r g p : Int} (h : placeG sz r g p = 0) : knownG sz r = 0 ∧ 0 ≤ firstS g p := by
  unfold placeG at h
  split at h
  · rename_i hh; exact absurd h hh
  · rename_i hh
    split at h
    · cases h
    · exact ⟨by simpa using hh, by omega⟩
end
section
open Go Go.RowKit
theorem sectors_any (p q : Nat) (w : World) (h : p * q ≤ 9000000000000000000) :
    Calls Tryz.prog 201 #[.agg #[.int .i64 p, .int .i64 q]] w fun e w' => e = .returned (.int .i64 (p * q : Nat)) ∧ Ext w w' := by
  have h' : ((p : Int) * (q : Int)) = ((p * q : Nat) : Int) := by simp
  have HM := Lib.hid h'
  have h0 : (0 : Int) ≤ (p : Int) * (q : Int) := by rw [h']; omega
  have h1 : (p : Int) * (q : Int) ≤ 9000000000000000000 := by rw [h']; omega
  clear h h'
  go_enter Tryz.func201, Tryz.ntmps201
  go_wp2
  go_ret
  exact ⟨by rw [← HM.out]; rfl, (Ext.refl w).alloc _⟩
theorem wide_any (r : Int) (w : World) (hL : LaidT w) :
    Calls Tryz.prog 122 #[.int .i64 r] w fun e w' => e = .returned (.int .i64 (wid r)) ∧ Ext w w' := by
  have HL := Lib.hid hL
  have hf := area_field1
  clear hL
  go_enter Tryz.func122, Tryz.ntmps122
  go_wp2_with fail
  refine (find_any r _ HL.out).mono ?_
  rintro e w1 ⟨rfl, hx⟩
  have HX := Lib.hid hx
  clear hx
  go_wp2_with fail
  go_ret
  exact ⟨rfl, HX.out⟩
end
end Go.Proofs.YtgcinagkbdcgiaaGreatDoor
