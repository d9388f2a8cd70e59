/-
  The contract of the frame's Mine.
  Plain facts on cells, without any program: which of two copies is loaded, what each call answers.
  Plain facts on copies: what a good copy's tag is; the frames that are put.
-/
import Derived.Test.YtlikhmhomkiadaaDoorQ03
import Derived.Test.YtlikhmhomkiadaaDoorQ16
import Derived.Test.YtlikhmhomkiadaaDoorQ21
namespace Go.Proofs.YtlikhmhomkiadaaDoor
set_option maxRecDepth 100000
open Go Go.RowKit

/-- What Mine answers. -/
def mineB (l : List Nat) (x y z : Int) : Bool := goodB l && (decide ((ofl l 0 : Int) = x) && (decide ((ofl l 1 : Int) = y) && decide ((ofl l 2 : Int) = z)))
def stM (l : List Nat) (x y z : Int) : Nat := if goodB l = true then (if mineB l x y z = true then 1 else 2) else stN l
def mfl (l : List Nat) (x y z : Int) (k : Nat) : Nat := if mineB l x y z = true then ofl l k else 0
def mbl (l : List Nat) (x y z : Int) : List Nat := if mineB l x y z = true then obl l else []
theorem mineB_bad {l : List Nat} {x y z : Int} (h : goodB l = false) : mineB l x y z = false := by unfold mineB; rw [h]; rfl
theorem mine_bad {l : List Nat} {x y z : Int} (h : goodB l = false) : stM l x y z = stN l ∧ (∀ k, mfl l x y z k = ofl l k) ∧ mbl l x y z = obl l := by
  refine ⟨by unfold stM; rw [if_neg (by rw [h]; simp)], fun k => ?_, ?_⟩
  · unfold mfl; rw [if_neg (by rw [mineB_bad h]; simp), ofl_no h]
  · unfold mbl; rw [if_neg (by rw [mineB_bad h]; simp), obl_no h]
theorem mine_yes {l : List Nat} {x y z : Int} (h : goodB l = true) (hm : mineB l x y z = true) : stM l x y z = 1 ∧ (∀ k, mfl l x y z k = ofl l k) ∧ mbl l x y z = obl l := by
  refine ⟨by unfold stM; rw [if_pos h, if_pos hm], fun k => ?_, ?_⟩
  · unfold mfl; rw [if_pos hm]
  · unfold mbl; rw [if_pos hm]
theorem mine_no {l : List Nat} {x y z : Int} (h : goodB l = true) (hm : mineB l x y z = false) : stM l x y z = 2 ∧ (∀ k, mfl l x y z k = 0) ∧ mbl l x y z = [] := by
  refine ⟨by unfold stM; rw [if_pos h, if_neg (by rw [hm]; simp)], fun k => ?_, ?_⟩
  · unfold mfl; rw [if_neg (by rw [hm]; simp)]
  · unfold mbl; rw [if_neg (by rw [hm]; simp)]
theorem mineB_iff {l : List Nat} {x y z : Int} (h : goodB l = true) : mineB l x y z = true ↔ (ofl l 0 : Int) = x ∧ (ofl l 1 : Int) = y ∧ (ofl l 2 : Int) = z := by
  unfold mineB
  rw [h]
  simp

theorem By.far {W V : World} {A : Option Addr} {n c h0 : Nat} {l : List Nat} (h : By W A n c l) (hne : ∀ g o, A = some ⟨g, o, none⟩ → 0 < n → h0 ≠ g) (hk : ∀ g k, h0 ≠ g → V.cell? ⟨g, k, none⟩ = W.cell? ⟨g, k, none⟩) (hs : W.heap.size ≤ V.heap.size) : By V A n c l := by
  refine ⟨h.len, h.cap, h.most, ⟨h.rd.lt, fun hn => ?_⟩, Bs.nil_ h⟩
  obtain ⟨g, o, e, hg, hc⟩ := h.rd.2 hn
  have hne' := hne g o e (by have := h.len; omega)
  exact ⟨g, o, e, by omega, fun j x hx => (hk g (o + j) hne').trans (hc j x hx)⟩
theorem five_size (w : World) (g : Nat) (x0 x1 x2 x3 x4 : Value) : w.heap.size ≤ (((((w.setCell ⟨g, 0, none⟩ x0).setCell ⟨g, 1, none⟩ x1).setCell ⟨g, 2, none⟩ x2).setCell ⟨g, 3, none⟩ x3).setCell ⟨g, 4, none⟩ x4).heap.size := by
  simp [World.setCell]
/-- What is known of a piece over a tag that is stored elsewhere. -/
theorem By.five {W : World} {A : Option Addr} {n c h0 : Nat} {l : List Nat} (h : By W A n c l) (hne : ∀ g o, A = some ⟨g, o, none⟩ → 0 < n → h0 ≠ g) (x0 x1 x2 x3 x4 : Value) :
    By (((((W.setCell ⟨h0, 0, none⟩ x0).setCell ⟨h0, 1, none⟩ x1).setCell ⟨h0, 2, none⟩ x2).setCell ⟨h0, 3, none⟩ x3).setCell ⟨h0, 4, none⟩ x4) A n c l :=
  h.far hne (fun _ _ hg => five_far hg _ _ _ _ _) (five_size _ _ _ _ _ _ _)
theorem Piece.ge {B : Nat} {w' : World} {A' : Option Addr} {N n : Nat} {l : List Nat} (h : Piece B w' A' N n l) : ∀ g o, A' = some ⟨g, o, none⟩ → 0 < N → B ≤ g := by
  intro g o e hN
  obtain ⟨g', c', e', _, ho⟩ := h hN
  rw [e] at e'
  injection e' with e'
  injection e' with e1 _
  subst e1
  exact (ho.lt g rfl).1
theorem Piece.ne {B : Nat} {w' : World} {A' : Option Addr} {N n h0 : Nat} {l : List Nat} (h : Piece B w' A' N n l) (hb : h0 < B) : ∀ g o, A' = some ⟨g, o, none⟩ → 0 < N → h0 ≠ g := by
  intro g o e hN
  obtain ⟨g', c', e', _, ho⟩ := h hN
  rw [e] at e'
  injection e' with e'
  injection e' with e1 _
  subst e1
  have := (ho.lt g rfl).1
  omega

set_option maxRecDepth 100000 in
set_option maxHeartbeats 6400000 in
theorem mine_own (A : Option Addr) (n cp : Nat) (l : List Nat) (x y z : Int) (w : World) (hL : LaidF w) (hb : By w A n cp l) :
    Calls Tryd.prog 69 #[.slice A n cp, .int .i64 x, .int .i64 y, .int .i64 z] w fun r w' => ∃ A' N, r = .returned (.tuple #[.int .u8 (stM l x y z), .agg #[.int .i64 (mfl l x y z 0), .int .i64 (mfl l x y z 1), .int .i64 (mfl l x y z 2), .int .i64 (mfl l x y z 3), .int .i64 (mfl l x y z 4)], .slice A' N N]) ∧ By w' A' N N (mbl l x y z) ∧ (∀ g o, A' = some ⟨g, o, none⟩ → 0 < N → w.heap.size ≤ g) ∧ Ext w w' := by
  have hz := heap_alloc_new w (.cells #[.int .i64 0, .int .i64 0, .int .i64 0, .int .i64 0, .int .i64 0] 97)
  have hE := (Ext.refl w).alloc (.cells #[.int .i64 0, .int .i64 0, .int .i64 0, .int .i64 0, .int .i64 0] 97)
  have HB := Lib.hid hb
  have HL := Lib.hid hL
  have HE := Lib.hid hE
  have HZ := Lib.hid hz
  clear hb hL hE hz
  go_enter Tryd.func69, Tryd.ntmps69
  go_wp2_with fail
  refine (open_any A n cp l _ (HL.out.ext HE.out) (HB.out.ext HE.out)).mono ?_
  rintro r w1 ⟨A1, N, rfl, hb1, hpc, hx⟩
  have hz1 := (hx.block _ (Array.getElem?_eq_some_iff.1 HZ.out).1).trans HZ.out
  have HE := Lib.hid (HE.out.trans hx)
  have HZ := Lib.hid hz1
  have HB1 := Lib.hid hb1
  obtain ⟨⟨c0, c1, c2, c3, c4⟩, f0, f1, f2, f3, f4⟩ := five_cells hz1
  have HNE := Lib.hid (hpc.ne (h0 := w.heap.size) (by simp))
  have HGE : Hid (∀ g o, A1 = some ⟨g, o, none⟩ → 0 < N → w.heap.size ≤ g) := Lib.hid fun g o hA hN => Nat.le_trans (by simp) (hpc.ge g o hA hN)
  clear hx hz1 hb1 hpc
  by_cases hg : goodB l = true
  · have HST : Hid (stN l = 1) := Lib.hid (stN_good hg)
    rw [HST.out]
    by_cases hm : mineB l x y z = true
    · obtain ⟨e1, e2, e3⟩ := mine_yes hg hm
      have HR : Hid (stM l x y z = 1 ∧ (∀ k, mfl l x y z k = ofl l k) ∧ mbl l x y z = obl l) := Lib.hid ⟨e1, e2, e3⟩
      obtain ⟨rfl, rfl, rfl⟩ := (mineB_iff hg).1 hm
      clear e1 e2 e3 hg hm
      go_wp2_with fail
      have hrow := five_row HZ.out (.int .i64 (ofl l 0)) (.int .i64 (ofl l 1)) (.int .i64 (ofl l 2)) (.int .i64 (ofl l 3)) (.int .i64 (ofl l 4))
      have hx := five_ext HE.out (Nat.le_refl _) (.int .i64 (ofl l 0)) (.int .i64 (ofl l 1)) (.int .i64 (ofl l 2)) (.int .i64 (ofl l 3)) (.int .i64 (ofl l 4))
      have hby := HB1.out.five HNE.out (.int .i64 (ofl l 0)) (.int .i64 (ofl l 1)) (.int .i64 (ofl l 2)) (.int .i64 (ofl l 3)) (.int .i64 (ofl l 4))
      clear c0 c1 c2 c3 c4 f0 f1 f2 f3 f4
      generalize (((((w1.setCell ⟨w.heap.size, 0, none⟩ (.int .i64 (ofl l 0))).setCell ⟨w.heap.size, 1, none⟩ (.int .i64 (ofl l 1))).setCell ⟨w.heap.size, 2, none⟩ (.int .i64 (ofl l 2))).setCell ⟨w.heap.size, 3, none⟩ (.int .i64 (ofl l 3))).setCell ⟨w.heap.size, 4, none⟩ (.int .i64 (ofl l 4))) = W at *
      generalize hh0 : w.heap.size = h0 at *
      obtain ⟨⟨d0, d1, d2, d3, d4⟩, f0, f1, f2, f3, f4⟩ := five_cells hrow
      have HZ := Lib.hid hrow
      have HE := Lib.hid hx
      have HB1 := Lib.hid hby
      have HN0 := Lib.hid hh0
      clear hh0 hrow hx hby
      go_region_held3 (fun w' => w'.cell? ⟨h0, 0, none⟩ = some (.int .i64 (ofl l 0)) ∧ w'.cell? ⟨h0, 1, none⟩ = some (.int .i64 (ofl l 1)) ∧ w'.cell? ⟨h0, 2, none⟩ = some (.int .i64 (ofl l 2)) ∧ w'.cell? ⟨h0, 3, none⟩ = some (.int .i64 (ofl l 3)) ∧ w'.cell? ⟨h0, 4, none⟩ = some (.int .i64 (ofl l 4)))
        (first | with_reducible exact ⟨d0, d1, d2, d3, d4⟩ | with_reducible exact five_near_drew HZ.out _ _ _ _ _ | go_keep)
        (first | (go_at_call 0; fail))
      have hrow := five_row HZ.out (.int .i64 (ofl l 0)) (.int .i64 (ofl l 1)) (.int .i64 (ofl l 2)) (.int .i64 (ofl l 3)) (.int .i64 (ofl l 4))
      have hx := five_ext HE.out (g := h0) (Nat.le_of_eq HN0.out) (.int .i64 (ofl l 0)) (.int .i64 (ofl l 1)) (.int .i64 (ofl l 2)) (.int .i64 (ofl l 3)) (.int .i64 (ofl l 4))
      have hby := HB1.out.five HNE.out (.int .i64 (ofl l 0)) (.int .i64 (ofl l 1)) (.int .i64 (ofl l 2)) (.int .i64 (ofl l 3)) (.int .i64 (ofl l 4))
      clear d0 d1 d2 d3 d4 f0 f1 f2 f3 f4
      generalize (((((W.setCell ⟨h0, 0, none⟩ (.int .i64 (ofl l 0))).setCell ⟨h0, 1, none⟩ (.int .i64 (ofl l 1))).setCell ⟨h0, 2, none⟩ (.int .i64 (ofl l 2))).setCell ⟨h0, 3, none⟩ (.int .i64 (ofl l 3))).setCell ⟨h0, 4, none⟩ (.int .i64 (ofl l 4))) = V at hrow hx hby ⊢
      obtain ⟨⟨e0, e1, e2, e3, e4⟩, _⟩ := five_cells hrow
      have HB1 := Lib.hid (hby.ext ((Ext.refl V).drew))
      have HX := Lib.hid hx.drew
      clear hrow hx hby
      go_wp2_with fail
      refine bodyPost_ret (v := .tuple #[.int .u8 1, .agg #[.int .i64 (ofl l 0), .int .i64 (ofl l 1), .int .i64 (ofl l 2), .int .i64 (ofl l 3), .int .i64 (ofl l 4)], .slice A1 N N]) ?_ rfl ?_
      · simp [results, Tryd.results69, go_sem, e0, e1, e2, e3, e4]
      · exact ⟨A1, N, by rw [HR.out.1, HR.out.2.1, HR.out.2.1, HR.out.2.1, HR.out.2.1, HR.out.2.1]; rfl, by rw [HR.out.2.2]; exact HB1.out, by rw [HN0.out]; exact HGE.out, HX.out⟩
    · have hm' : mineB l x y z = false := by simpa using hm
      obtain ⟨e1, e2, e3⟩ := mine_no hg hm'
      have HR : Hid (stM l x y z = 2 ∧ (∀ k, mfl l x y z k = 0) ∧ mbl l x y z = []) := Lib.hid ⟨e1, e2, e3⟩
      rw [mineB_iff hg] at hm
      clear e1 e2 e3 hm'
      by_cases h0 : (ofl l 0 : Int) = x
      · by_cases h1 : (ofl l 1 : Int) = y
        · have h2 : ¬ (ofl l 2 : Int) = z := fun h => hm ⟨h0, h1, h⟩
          subst h0; subst h1
          have g2 : ((ofl l 2 : Int) != z) = true := by simpa using h2
          clear hm hg h2
          have hz2 := five_row HZ.out (.int .i64 (ofl l 0)) (.int .i64 (ofl l 1)) (.int .i64 (ofl l 2)) (.int .i64 (ofl l 3)) (.int .i64 (ofl l 4))
          have hz3 := five_row hz2 (.int .i64 0) (.int .i64 0) (.int .i64 0) (.int .i64 0) (.int .i64 0)
          have hx := five_ext HE.out (Nat.le_refl _) (.int .i64 (ofl l 0)) (.int .i64 (ofl l 1)) (.int .i64 (ofl l 2)) (.int .i64 (ofl l 3)) (.int .i64 (ofl l 4))
          have hx3 := five_ext hx (Nat.le_refl _) (.int .i64 0) (.int .i64 0) (.int .i64 0) (.int .i64 0) (.int .i64 0)
          have HZ3 := Lib.hid hz3
          have HX3 := Lib.hid hx3
          clear hz2 hz3 hx hx3
          go_wp2_with fail
          have hz3 := HZ3.out
          have hx3 := HX3.out
          generalize ((((((((((w1.setCell ⟨w.heap.size, 0, none⟩ (.int .i64 (ofl l 0))).setCell ⟨w.heap.size, 1, none⟩ (.int .i64 (ofl l 1))).setCell ⟨w.heap.size, 2, none⟩ (.int .i64 (ofl l 2))).setCell ⟨w.heap.size, 3, none⟩ (.int .i64 (ofl l 3))).setCell ⟨w.heap.size, 4, none⟩ (.int .i64 (ofl l 4))).setCell ⟨w.heap.size, 0, none⟩ (.int .i64 0)).setCell ⟨w.heap.size, 1, none⟩ (.int .i64 0)).setCell ⟨w.heap.size, 2, none⟩ (.int .i64 0)).setCell ⟨w.heap.size, 3, none⟩ (.int .i64 0)).setCell ⟨w.heap.size, 4, none⟩ (.int .i64 0)) = V at hz3 hx3 ⊢
          obtain ⟨⟨e0, e1, e2, e3, e4⟩, _⟩ := five_cells hz3
          refine bodyPost_ret (v := .tuple #[.int .u8 2, .agg #[.int .i64 0, .int .i64 0, .int .i64 0, .int .i64 0, .int .i64 0], .slice none 0 0]) ?_ rfl ?_
          · simp [results, Tryd.results69, go_sem, e0, e1, e2, e3, e4]
          · exact ⟨none, 0, by rw [HR.out.1, HR.out.2.1, HR.out.2.1, HR.out.2.1, HR.out.2.1, HR.out.2.1]; rfl, by rw [HR.out.2.2]; exact By.nil_ _, fun g o hA hN => absurd hN (by omega), hx3⟩
        · subst h0
          have g1 : ((ofl l 1 : Int) != y) = true := by simpa using h1
          clear hm hg h1
          have hz2 := five_row HZ.out (.int .i64 (ofl l 0)) (.int .i64 (ofl l 1)) (.int .i64 (ofl l 2)) (.int .i64 (ofl l 3)) (.int .i64 (ofl l 4))
          have hz3 := five_row hz2 (.int .i64 0) (.int .i64 0) (.int .i64 0) (.int .i64 0) (.int .i64 0)
          have hx := five_ext HE.out (Nat.le_refl _) (.int .i64 (ofl l 0)) (.int .i64 (ofl l 1)) (.int .i64 (ofl l 2)) (.int .i64 (ofl l 3)) (.int .i64 (ofl l 4))
          have hx3 := five_ext hx (Nat.le_refl _) (.int .i64 0) (.int .i64 0) (.int .i64 0) (.int .i64 0) (.int .i64 0)
          have HZ3 := Lib.hid hz3
          have HX3 := Lib.hid hx3
          clear hz2 hz3 hx hx3
          go_wp2_with fail
          have hz3 := HZ3.out
          have hx3 := HX3.out
          generalize ((((((((((w1.setCell ⟨w.heap.size, 0, none⟩ (.int .i64 (ofl l 0))).setCell ⟨w.heap.size, 1, none⟩ (.int .i64 (ofl l 1))).setCell ⟨w.heap.size, 2, none⟩ (.int .i64 (ofl l 2))).setCell ⟨w.heap.size, 3, none⟩ (.int .i64 (ofl l 3))).setCell ⟨w.heap.size, 4, none⟩ (.int .i64 (ofl l 4))).setCell ⟨w.heap.size, 0, none⟩ (.int .i64 0)).setCell ⟨w.heap.size, 1, none⟩ (.int .i64 0)).setCell ⟨w.heap.size, 2, none⟩ (.int .i64 0)).setCell ⟨w.heap.size, 3, none⟩ (.int .i64 0)).setCell ⟨w.heap.size, 4, none⟩ (.int .i64 0)) = V at hz3 hx3 ⊢
          obtain ⟨⟨e0, e1, e2, e3, e4⟩, _⟩ := five_cells hz3
          refine bodyPost_ret (v := .tuple #[.int .u8 2, .agg #[.int .i64 0, .int .i64 0, .int .i64 0, .int .i64 0, .int .i64 0], .slice none 0 0]) ?_ rfl ?_
          · simp [results, Tryd.results69, go_sem, e0, e1, e2, e3, e4]
          · exact ⟨none, 0, by rw [HR.out.1, HR.out.2.1, HR.out.2.1, HR.out.2.1, HR.out.2.1, HR.out.2.1]; rfl, by rw [HR.out.2.2]; exact By.nil_ _, fun g o hA hN => absurd hN (by omega), hx3⟩
      · have g0 : ((ofl l 0 : Int) != x) = true := by simpa using h0
        clear hm hg h0
        have hz2 := five_row HZ.out (.int .i64 (ofl l 0)) (.int .i64 (ofl l 1)) (.int .i64 (ofl l 2)) (.int .i64 (ofl l 3)) (.int .i64 (ofl l 4))
        have hz3 := five_row hz2 (.int .i64 0) (.int .i64 0) (.int .i64 0) (.int .i64 0) (.int .i64 0)
        have hx := five_ext HE.out (Nat.le_refl _) (.int .i64 (ofl l 0)) (.int .i64 (ofl l 1)) (.int .i64 (ofl l 2)) (.int .i64 (ofl l 3)) (.int .i64 (ofl l 4))
        have hx3 := five_ext hx (Nat.le_refl _) (.int .i64 0) (.int .i64 0) (.int .i64 0) (.int .i64 0) (.int .i64 0)
        have HZ3 := Lib.hid hz3
        have HX3 := Lib.hid hx3
        clear hz2 hz3 hx hx3
        go_wp2_with fail
        have hz3 := HZ3.out
        have hx3 := HX3.out
        generalize ((((((((((w1.setCell ⟨w.heap.size, 0, none⟩ (.int .i64 (ofl l 0))).setCell ⟨w.heap.size, 1, none⟩ (.int .i64 (ofl l 1))).setCell ⟨w.heap.size, 2, none⟩ (.int .i64 (ofl l 2))).setCell ⟨w.heap.size, 3, none⟩ (.int .i64 (ofl l 3))).setCell ⟨w.heap.size, 4, none⟩ (.int .i64 (ofl l 4))).setCell ⟨w.heap.size, 0, none⟩ (.int .i64 0)).setCell ⟨w.heap.size, 1, none⟩ (.int .i64 0)).setCell ⟨w.heap.size, 2, none⟩ (.int .i64 0)).setCell ⟨w.heap.size, 3, none⟩ (.int .i64 0)).setCell ⟨w.heap.size, 4, none⟩ (.int .i64 0)) = V at hz3 hx3 ⊢
        obtain ⟨⟨e0, e1, e2, e3, e4⟩, _⟩ := five_cells hz3
        refine bodyPost_ret (v := .tuple #[.int .u8 2, .agg #[.int .i64 0, .int .i64 0, .int .i64 0, .int .i64 0, .int .i64 0], .slice none 0 0]) ?_ rfl ?_
        · simp [results, Tryd.results69, go_sem, e0, e1, e2, e3, e4]
        · exact ⟨none, 0, by rw [HR.out.1, HR.out.2.1, HR.out.2.1, HR.out.2.1, HR.out.2.1, HR.out.2.1]; rfl, by rw [HR.out.2.2]; exact By.nil_ _, fun g o hA hN => absurd hN (by omega), hx3⟩
  · have hg' : goodB l = false := by simpa using hg
    obtain ⟨e1, e2, e3⟩ := mine_bad (x := x) (y := y) (z := z) hg'
    have HR : Hid (stM l x y z = stN l ∧ (∀ k, mfl l x y z k = ofl l k) ∧ mbl l x y z = obl l) := Lib.hid ⟨e1, e2, e3⟩
    have hst : ¬ stN l = 1 := fun h => hg (stN_one.1 h)
    have g0 : ((stN l : Int) == 1) = false := by simp; omega
    clear e1 e2 e3 hg hg' hst
    generalize stN l = st at *
    go_wp2_with fail
    have hrow := five_row HZ.out (.int .i64 (ofl l 0)) (.int .i64 (ofl l 1)) (.int .i64 (ofl l 2)) (.int .i64 (ofl l 3)) (.int .i64 (ofl l 4))
    have hx := five_ext HE.out (Nat.le_refl _) (.int .i64 (ofl l 0)) (.int .i64 (ofl l 1)) (.int .i64 (ofl l 2)) (.int .i64 (ofl l 3)) (.int .i64 (ofl l 4))
    have hby := HB1.out.five HNE.out (.int .i64 (ofl l 0)) (.int .i64 (ofl l 1)) (.int .i64 (ofl l 2)) (.int .i64 (ofl l 3)) (.int .i64 (ofl l 4))
    clear c0 c1 c2 c3 c4 f0 f1 f2 f3 f4
    generalize (((((w1.setCell ⟨w.heap.size, 0, none⟩ (.int .i64 (ofl l 0))).setCell ⟨w.heap.size, 1, none⟩ (.int .i64 (ofl l 1))).setCell ⟨w.heap.size, 2, none⟩ (.int .i64 (ofl l 2))).setCell ⟨w.heap.size, 3, none⟩ (.int .i64 (ofl l 3))).setCell ⟨w.heap.size, 4, none⟩ (.int .i64 (ofl l 4))) = W at *
    generalize hh0 : w.heap.size = h0 at *
    obtain ⟨⟨d0, d1, d2, d3, d4⟩, f0, f1, f2, f3, f4⟩ := five_cells hrow
    have HZ := Lib.hid hrow
    have HE := Lib.hid hx
    have HB1 := Lib.hid hby
    have HN0 := Lib.hid hh0
    clear hh0 hrow hx hby
    go_region_held3 (fun w' => w'.cell? ⟨h0, 0, none⟩ = some (.int .i64 (ofl l 0)) ∧ w'.cell? ⟨h0, 1, none⟩ = some (.int .i64 (ofl l 1)) ∧ w'.cell? ⟨h0, 2, none⟩ = some (.int .i64 (ofl l 2)) ∧ w'.cell? ⟨h0, 3, none⟩ = some (.int .i64 (ofl l 3)) ∧ w'.cell? ⟨h0, 4, none⟩ = some (.int .i64 (ofl l 4)))
      (first | with_reducible exact ⟨d0, d1, d2, d3, d4⟩ | with_reducible exact five_near_drew HZ.out _ _ _ _ _ | go_keep)
      (first | (go_at_call 0; fail))
    have hrow := five_row HZ.out (.int .i64 (ofl l 0)) (.int .i64 (ofl l 1)) (.int .i64 (ofl l 2)) (.int .i64 (ofl l 3)) (.int .i64 (ofl l 4))
    have hx := five_ext HE.out (g := h0) (Nat.le_of_eq HN0.out) (.int .i64 (ofl l 0)) (.int .i64 (ofl l 1)) (.int .i64 (ofl l 2)) (.int .i64 (ofl l 3)) (.int .i64 (ofl l 4))
    have hby := HB1.out.five HNE.out (.int .i64 (ofl l 0)) (.int .i64 (ofl l 1)) (.int .i64 (ofl l 2)) (.int .i64 (ofl l 3)) (.int .i64 (ofl l 4))
    clear d0 d1 d2 d3 d4 f0 f1 f2 f3 f4
    generalize (((((W.setCell ⟨h0, 0, none⟩ (.int .i64 (ofl l 0))).setCell ⟨h0, 1, none⟩ (.int .i64 (ofl l 1))).setCell ⟨h0, 2, none⟩ (.int .i64 (ofl l 2))).setCell ⟨h0, 3, none⟩ (.int .i64 (ofl l 3))).setCell ⟨h0, 4, none⟩ (.int .i64 (ofl l 4))) = V at hrow hx hby ⊢
    obtain ⟨⟨e0, e1, e2, e3, e4⟩, _⟩ := five_cells hrow
    have HB1 := Lib.hid (hby.ext ((Ext.refl V).drew))
    have HX := Lib.hid hx.drew
    clear hrow hx hby
    go_wp2_with fail
    refine bodyPost_ret (v := .tuple #[.int .u8 st, .agg #[.int .i64 (ofl l 0), .int .i64 (ofl l 1), .int .i64 (ofl l 2), .int .i64 (ofl l 3), .int .i64 (ofl l 4)], .slice A1 N N]) ?_ rfl ?_
    · simp [results, Tryd.results69, go_sem, e0, e1, e2, e3, e4]
    · exact ⟨A1, N, by rw [HR.out.1, HR.out.2.1, HR.out.2.1, HR.out.2.1, HR.out.2.1, HR.out.2.1], by rw [HR.out.2.2]; exact HB1.out, by rw [HN0.out]; exact HGE.out, HX.out⟩
theorem mine_any (A : Option Addr) (n cp : Nat) (l : List Nat) (x y z : Int) (w : World) (hL : LaidF w) (hb : By w A n cp l) :
    Calls Tryd.prog 69 #[.slice A n cp, .int .i64 x, .int .i64 y, .int .i64 z] w fun r w' => ∃ A' N, r = .returned (.tuple #[.int .u8 (stM l x y z), .agg #[.int .i64 (mfl l x y z 0), .int .i64 (mfl l x y z 1), .int .i64 (mfl l x y z 2), .int .i64 (mfl l x y z 3), .int .i64 (mfl l x y z 4)], .slice A' N N]) ∧ By w' A' N N (mbl l x y z) ∧ Ext w w' :=
  (mine_own A n cp l x y z w hL hb).mono fun _ _ ⟨A', N, h1, h2, _, h4⟩ => ⟨A', N, h1, h2, h4⟩
end Go.Proofs.YtlikhmhomkiadaaDoor

namespace Go.Proofs.YtlikhmhomkiadaaDoor
set_option maxRecDepth 100000

/-- The answers of whom: no such disk, region, replica. -/
def knownC (sz : Nat) (r g : Int) : Int := if sz = 0 then 1 else if sz < 156 ∨ (g ≠ 1 ∧ g ≠ 2) ∨ r < 0 ∨ 7 ≤ r then 2 else 0
theorem knownC_ok {sz : Nat} {r g : Int} (h : knownC sz r g = 0) : 156 ≤ sz ∧ (g = 1 ∨ g = 2) ∧ 0 ≤ r ∧ r < 7 := by
  unfold knownC at h
  split at h
  · cases h
  · split at h
    · cases h
    · omega
/-- The first of two places of which it holds, or -1. -/
def pickP (b0 b1 : Bool) : Int := if b0 = true then 0 else if b1 = true then 1 else -1
/-- Which copy is loaded, by the bytes at both places. -/
def lead0 (r g : Int) (x y : List Nat) : Bool := decide (stM x r g 0 = 1) && decide (mfl y r g 1 3 ≤ mfl x r g 0 3)
def lead1 (r g : Int) (x y : List Nat) : Bool := decide (stM y r g 1 = 1) && decide (mfl x r g 0 3 ≤ mfl y r g 1 3)
def atC (r g : Int) (x y : List Nat) : Int := pickP (lead0 r g x y) (lead1 r g x y)
def blankC (r g : Int) (x y : List Nat) : Int := pickP (decide (stM x r g 0 = 0)) (decide (stM y r g 1 = 0))
def cellE (r g : Int) (x y : List Nat) : Int := if atC r g x y = -1 ∧ blankC r g x y = -1 then 70 else 0
/-- The version and the body that are loaded; the incarnation. -/
def cellF (r g : Int) (x y : List Nat) (k : Nat) : Nat := if atC r g x y = 0 then mfl x r g 0 k else if atC r g x y = 1 then mfl y r g 1 k else 0
def cellB (r g : Int) (x y : List Nat) : List Nat := if atC r g x y = 0 then mbl x r g 0 else if atC r g x y = 1 then mbl y r g 1 else []
theorem atC_cases (r g : Int) (x y : List Nat) : atC r g x y = 0 ∨ atC r g x y = 1 ∨ atC r g x y = -1 := by
  unfold atC pickP
  (repeat' split) <;> simp
/-- The bytes of a place. -/
def DM.cb (m : DM) (g p : Int) : List Nat := (m.read (firstS g p)).1
/-- What Load answers of a disk that there is. -/
def DM.loadE (m : DM) (r g : Int) : Int := if m.up = false then 5 else cellE r g (m.cb g 0) (m.cb g 1)
def DM.loadV (m : DM) (r g : Int) : Nat := if m.loadE r g = 0 then cellF r g (m.cb g 0) (m.cb g 1) 3 else 0
def DM.loadB (m : DM) (r g : Int) : List Nat := if m.loadE r g = 0 then cellB r g (m.cb g 0) (m.cb g 1) else []
/-- What put leaves: a frame at a sector, written and flushed. -/
def DM.putC (m : DM) (s : Int) (L : List Nat) : Int × DM := if (m.write s L).1 ≠ 0 then m.write s L else (m.write s L).2.flush
/-- Is the other copy the same? -/
def sameC (r g : Int) (x y : List Nat) : Bool := if atC r g x y = 0 then decide (stM y r g 1 = 1) && (decide (mfl y r g 1 3 = mfl x r g 0 3) && decide (mbl y r g 1 = mbl x r g 0)) else decide (stM x r g 0 = 1) && (decide (mfl x r g 0 3 = mfl y r g 1 3) && decide (mbl x r g 0 = mbl y r g 1))
def otherP (p : Int) : Int := 1 - p
/-- The frame that is put. -/
def sealC (r g p : Int) (i c : Nat) (b : List Nat) : List Nat := sealL r g p (i : Int) (c : Int) b 1
def DM.heal (m : DM) (r g : Int) : Int × DM :=
  if m.loadE r g ≠ 0 then (m.loadE r g, m) else if atC r g (m.cb g 0) (m.cb g 1) = -1 ∨ sameC r g (m.cb g 0) (m.cb g 1) = true then (0, m) else
    m.putC (firstS g (otherP (atC r g (m.cb g 0) (m.cb g 1)))) (sealC r g (otherP (atC r g (m.cb g 0) (m.cb g 1))) (cellF r g (m.cb g 0) (m.cb g 1) 3) (cellF r g (m.cb g 0) (m.cb g 1) 4) (cellB r g (m.cb g 0) (m.cb g 1)))
/-- The place that is written first. -/
def firstP (r g : Int) (x y : List Nat) : Int := if atC r g x y = 0 then 1 else 0
/-- A frame is put to both places. -/
def DM.puts2 (m : DM) (r g p : Int) (i c : Nat) (b : List Nat) : Int × DM :=
  if (m.putC (firstS g p) (sealC r g p i c b)).1 ≠ 0 then m.putC (firstS g p) (sealC r g p i c b) else (m.putC (firstS g p) (sealC r g p i c b)).2.putC (firstS g (otherP p)) (sealC r g (otherP p) i c b)
def DM.storeE (m : DM) (r g c : Int) (n : Nat) : Int := if c < 1 ∨ 1099511627776 < c then 2 else if 43 < n then 3 else if m.loadE r g ≠ 0 then m.loadE r g else if m.loadV r g = 1099511627776 then 4 else 0
def DM.store (m : DM) (r g c : Int) (b : List Nat) : Int × DM :=
  if m.storeE r g c b.length ≠ 0 then (m.storeE r g c b.length, m) else m.puts2 r g (firstP r g (m.cb g 0) (m.cb g 1)) (m.loadV r g + 1) c.toNat b
end Go.Proofs.YtlikhmhomkiadaaDoor

namespace Go.Proofs.YtlikhmhomkiadaaDoor
set_option maxRecDepth 100000

theorem read_sect {m : DM} (h : m.Ok) (s : Int) : (m.read s).1 = [] ∨ Sect (m.read s).1 := by
  unfold DM.read
  split
  · exact .inl rfl
  · split
    · exact .inl rfl
    · rename_i hh
      have hlt := DM.has_lt hh
      split
      · rename_i b hb
        exact .inr (h.waits _ (lastW_mem hb)).2
      · split
        · exact .inl rfl
        · right
          rw [List.getD_eq_getElem?_getD, List.getElem?_eq_getElem hlt, Option.getD_some]
          exact h.rests _ (List.getElem_mem hlt)
theorem stM_one {l : List Nat} {x y z : Int} (h : stM l x y z = 1) : goodB l = true ∧ mineB l x y z = true := by
  unfold stM at h
  split at h
  · rename_i hg
    split at h
    · rename_i hm
      exact ⟨hg, hm⟩
    · cases h
  · rename_i hg
    exact absurd (stN_one.1 h) hg
/-- A good copy: its tag and its body. -/
theorem mine_copy {x : List Nat} {r g p : Int} (hx : x = [] ∨ Sect x) (h : stM x r g p = 1) :
    ((mfl x r g p 0 : Nat) : Int) = r ∧ ((mfl x r g p 1 : Nat) : Int) = g ∧ ((mfl x r g p 2 : Nat) : Int) = p ∧ mayB r g p (mfl x r g p 3 : Nat) (mfl x r g p 4 : Nat) = true ∧ (mbl x r g p).length ≤ 43 := by
  obtain ⟨hg, hm⟩ := stM_one h
  obtain ⟨_, e2, e3⟩ := mine_yes hg hm
  obtain ⟨h0, h1, h2⟩ := (mineB_iff hg).1 hm
  obtain ⟨hs, hp, hn, hf⟩ := good_parts hg
  have hl : x.length = 64 := by
    rcases hx with rfl | hx
    · simp at hs
    · exact hx.1
  have hmay := may_pf hp
  rw [e2, e2, e2, e2, e2, e3, h0, h1, h2]
  refine ⟨rfl, rfl, rfl, ?_, ?_⟩
  · rw [← h0, ← h1, ← h2, ofl_yes hg, ofl_yes hg, ofl_yes hg, ofl_yes hg, ofl_yes hg]
    exact hmay
  · rw [obl_yes hg]
    have h43 : bodyN x ≤ 43 := by rw [hl] at hn; exact hn
    unfold bodyOf
    rw [List.length_take]
    omega
theorem may_other {r g p q i c : Int} (hg : g = 1 ∨ g = 2) (hq : q = 0 ∨ q = 1) (h : mayB r g p i c = true) : mayB r g q i c = true := by
  rw [mayB_iff] at h ⊢
  have : plc g = 2 := by rcases hg with rfl | rfl <;> rfl
  omega
theorem seal_one {r g p i c : Int} {n : Nat} (h : mayB r g p i c = true) (hn : n ≤ 43) : sealE r g p i c n 1 = 0 := sealE_yes (by decide) h (by rw [roomN_one]; exact hn)
theorem may_store {r g p c : Int} {v : Nat} (hr : 0 ≤ r ∧ r < 7) (hg : g = 1 ∨ g = 2) (hp : p = 0 ∨ p = 1) (hv : v < 1099511627776) (hc : 1 ≤ c ∧ c ≤ 1099511627776) : mayB r g p ((v + 1 : Nat) : Int) c = true := by
  rw [mayB_iff]
  have : plc g = 2 := by rcases hg with rfl | rfl <;> rfl
  omega
theorem atC_zero {r g : Int} {x y : List Nat} (h : atC r g x y = 0) : stM x r g 0 = 1 := by
  unfold atC pickP lead0 at h
  split at h
  · rename_i hh
    rw [Bool.and_eq_true] at hh
    exact of_decide_eq_true hh.1
  · split at h <;> cases h
theorem atC_one {r g : Int} {x y : List Nat} (h : atC r g x y = 1) : stM y r g 1 = 1 := by
  unfold atC pickP lead1 at h
  split at h
  · cases h
  · split at h
    · rename_i hh
      rw [Bool.and_eq_true] at hh
      exact of_decide_eq_true hh.1
    · cases h
theorem loadV_most {m : DM} (h : m.Ok) (r g : Int) : m.loadV r g ≤ 1099511627776 := by
  unfold DM.loadV
  split
  · unfold cellF
    split
    · rename_i ha
      have := (mine_copy (read_sect h _) (atC_zero ha)).2.2.2.1
      rw [mayB_iff] at this
      unfold DM.cb at *
      omega
    · split
      · rename_i ha
        have := (mine_copy (read_sect h _) (atC_one ha)).2.2.2.1
        rw [mayB_iff] at this
        unfold DM.cb at *
        omega
      · omega
  · omega
end Go.Proofs.YtlikhmhomkiadaaDoor
