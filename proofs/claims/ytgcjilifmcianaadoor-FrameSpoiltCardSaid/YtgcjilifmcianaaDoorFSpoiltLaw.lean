/-
  The walk of FrameSpoilt: a frame of which one, two or three bits are turned about is not good, unless they are turned back.
-/
import Derived.Test.YtgcjilifmcianaaDoorFSealed
import Derived.Test.YtgcjilifmcianaaDoorTNeq
import Derived.Test.YtgcjilifmcianaaDoorPat
import Derived.IntWalk
import Derived.Laws.BitsAllLaws
namespace Go.Proofs.YtgcjilifmcianaaDoor
open Go Go.RowKit

/-- Three numbers, in a block of their own. -/
def Tri (w : World) (b : Nat) (f : Nat → Nat) : Prop := ∀ t, t < 3 → w.cell? ⟨b, t, none⟩ = some (.int .u16 (f t))
theorem Tri.set {w : World} {b g o : Nat} {f : Nat → Nat} (h : Tri w b f) (hne : b ≠ g) (v : Value) : Tri (w.setCell ⟨g, o, none⟩ v) b f := fun t ht => by
  rw [← h t ht]
  exact World.cell?_setCell_far w ⟨g, o, none⟩ ⟨b, t, none⟩ v (fun e => hne e.symm)
theorem Tri.ext {w w' : World} {b : Nat} {f : Nat → Nat} (h : Tri w b f) (k : Ext w w') : Tri w' b f := fun t ht => Ext.cell k (h t ht)
def tri (i j k : Nat) (t : Nat) : Nat := if t = 0 then i else if t = 1 then j else k
theorem tri_lt {i j k m : Nat} (hi : i < m) (hj : j < m) (hk : k < m) (t : Nat) : tri i j k t < m := by unfold tri; (repeat' split) <;> assumption
def Flipped (la : List Nat) (n t : Nat) (M : List Nat) : Prop := ∃ ps : List Nat, ps.length = t ∧ (∀ p ∈ ps, p < 8 * n) ∧ M = flips la ps
theorem Flipped.step {la M : List Nat} {n t p : Nat} (h : Flipped la n t M) (hp : p < 8 * n) : Flipped la n (t + 1) (flipB M p) := by
  obtain ⟨ps, h1, h2, rfl⟩ := h
  refine ⟨ps ++ [p], by simp [h1], ?_, (flips_snoc _ _ _).symm⟩
  intro q hq
  rcases List.mem_append.1 hq with hq | hq
  · exact h2 q hq
  · simp at hq; omega
theorem Flipped.lt {la M : List Nat} {n t : Nat} (h : Flipped la n t M) (hl : ∀ x ∈ la, x < 256) : ∀ x ∈ M, x < 256 := by
  obtain ⟨ps, _, _, rfl⟩ := h
  exact flips_lt ps hl
theorem Flipped.len {la M : List Nat} {n t : Nat} (h : Flipped la n t M) : M.length = la.length := by
  obtain ⟨ps, _, _, rfl⟩ := h
  exact flips_length la ps
theorem Flipped.good {la M : List Nat} {n t : Nat} (h : Flipped la n t M) (hg : goodB la = true) (hl : ∀ x ∈ la, x < 256) (hn : la.length = n) (ht : t ≤ 3) : goodB M = decide (la = M) := by
  obtain ⟨ps, h1, h2, rfl⟩ := h
  exact spoilt hg hl (by omega) (by rw [hn]; exact h2)

set_option maxHeartbeats 6400000 in
set_option maxRecDepth 100000 in
theorem spoilt_false (a b c d e : Int) (A : Option Addr) (n cp : Nat) (l : List Nat) (x y z : Nat) (w : World) (hb : By w A n cp l) (hL : LaidF w) (hn : n ≤ 300) (hx3 : x < 65536) (hy3 : y < 65536) (hz3 : z < 65536) (hz : sealE a b c d e n (sS false) = 0) :
    Calls Tryd.prog 6 #[.agg #[.int .i64 a, .int .i64 b, .int .i64 c, .int .i64 d, .int .i64 e], .slice A n cp, .bool false, .agg #[.int .u16 x, .int .u16 y, .int .u16 z]] w fun r w' => r = .returned (.bool true) ∧ Ext w w' := by
  have hE := ((Ext.refl w).alloc (.cells #[.int .i64 a, .int .i64 b, .int .i64 c, .int .i64 d, .int .i64 e] 23)).alloc (.cells #[.int .u16 x, .int .u16 y, .int .u16 z] 42)
  have hE0 := (Ext.refl (w.alloc (.cells #[.int .i64 a, .int .i64 b, .int .i64 c, .int .i64 d, .int .i64 e] 23))).alloc (.cells #[.int .u16 x, .int .u16 y, .int .u16 z] 42)
  have hT0 := (hE0.block _ (Array.getElem?_eq_some_iff.1 (heap_alloc_new w (.cells #[.int .i64 a, .int .i64 b, .int .i64 c, .int .i64 d, .int .i64 e] 23))).1).trans (heap_alloc_new w (.cells #[.int .i64 a, .int .i64 b, .int .i64 c, .int .i64 d, .int .i64 e] 23))
  have HT := Lib.hid hT0
  have HT3 : Hid (((w.alloc (.cells #[.int .i64 a, .int .i64 b, .int .i64 c, .int .i64 d, .int .i64 e] 23)).alloc (.cells #[.int .u16 x, .int .u16 y, .int .u16 z] 42) ).heap[w.heap.size + 1]? = some (.cells #[.int .u16 x, .int .u16 y, .int .u16 z] 42) ) := Lib.hid (heap_alloc2_new w _ _)
  have hlen : l.length = n := Bs.len hb
  have hz' : sealE a b c d e l.length (sS false) = 0 := by rw [hlen]; exact hz
  have hgood := (sealL_good hz').1
  have hL64 : (sealL a b c d e l (sS false)).length = 64 := (sealL_len hz').1
  have HLt : Hid (∀ v ∈ sealL a b c d e l (sS false), v < 256) := Lib.hid (sealL_lt (Bs.rd hb).lt)
  have HG := Lib.hid hgood
  have H64 : Hid ((sealL a b c d e l (sS false)).length = 64) := Lib.hid hL64
  have HB := Lib.hid hb
  have HL := Lib.hid hL
  have HE := Lib.hid hE
  have HZ := Lib.hid hz
  clear hE hb hL hz hz' hgood hlen hL64 hE0 hT0
  go_enter Tryd.func6, Tryd.ntmps6
  go_wp2_with fail
  refine (fawake_any _ (HL.out.ext HE.out)).mono ?_
  rintro r w1 ⟨rfl, hx⟩
  have HE := Lib.hid (HE.out.trans hx)
  have ht := (hx.block _ (Array.getElem?_eq_some_iff.1 HT.out).1).trans HT.out
  have HT3 := Lib.hid ((hx.block _ (Array.getElem?_eq_some_iff.1 HT3.out).1).trans HT3.out)
  obtain ⟨⟨j0, j1, j2, j3, j4⟩, _⟩ := five_cells ht
  clear hx ht
  go_wp2_with fail
  refine (sealed_any _ _ _ _ _ _ _ _ l false _ (HL.out.ext HE.out) (HB.out.ext HE.out)).mono ?_
  rw [decide_eq_true HZ.out, H64.out]
  generalize hLq : sealL a b c d e l (sS false) = L at *
  rintro r w2 ⟨A3, c3, rfl, hb3, hx⟩
  have HB3 := Lib.hid hb3
  have HE := Lib.hid (HE.out.trans hx)
  have HT3 := Lib.hid ((hx.block _ (Array.getElem?_eq_some_iff.1 HT3.out).1).trans HT3.out)
  clear hx hb3 j0 j1 j2 j3 j4 hLq
  go_wp2_with fail
  refine (copy_by A3 L 64 c3 _ HB3.out (by omega)).mono ?_
  rintro r w3 ⟨A1, c1, rfl, _, hx, hown⟩
  obtain ⟨g, cap, hv⟩ := Go.Joins.ownsRow_form hown (by omega)
  injection hv with hv _ hcap
  subst hv; subst hcap
  have hg := (hown.lt g rfl).1
  have hne3 : w.heap.size + 1 ≠ g := by have := (Array.getElem?_eq_some_iff.1 HT3.out).1; omega
  have HO := Lib.hid hown
  have HX := Lib.hid hx
  have HT3 := Lib.hid ((hx.block _ (Array.getElem?_eq_some_iff.1 HT3.out).1).trans HT3.out)
  have HTr : Hid (Tri w3 (w.heap.size + 1) (tri x y z)) := by
    refine Lib.hid fun t ht => ?_
    rw [cell_of_row _ (w.heap.size + 1) t _ 42 (0, 0) HT3.out]
    have : t = 0 ∨ t = 1 ∨ t = 2 := by omega
    rcases this with rfl | rfl | rfl <;> rfl
  clear hx hown
  go_wp2_with fail
  go_loopw [12] (fun i wr => ∃ t : Nat, t ≤ 3 ∧ i = .int .i64 t ∧ Hid (∃ M, Flipped L 64 t M ∧ wr.ownsRow w2.heap.size 5 1 (.slice (some ⟨g, 0, none⟩) 64 c1) 64 (vb M)) ∧ Hid (Tri wr (w.heap.size + 1) (tri x y z)) ∧ Hid (Ext w2 wr)) (fun i _ => 3 - (intOf i).toNat)
  case atStart => exact ⟨0, Nat.zero_le _, rfl, Lib.hid ⟨L, ⟨[], rfl, by simp, rfl⟩, HO.out⟩, HTr, HX⟩
  case round =>
    obtain ⟨t, ht, rfl, HM, HTk, HXk⟩ := hrel
    clear HO HX HTr
    by_cases hlt : t < 3
    · obtain ⟨M, hF, hO⟩ := HM.out
      have HOk := Lib.hid hO
      have hc3 := HTk.out t hlt
      have hlt16 := tri_lt hx3 hy3 hz3 t
      generalize hxt : tri x y z t = xt at hc3 hlt16
      clear hxt
      obtain ⟨p, hpn⟩ : ∃ p, xt % 512 = p := ⟨_, rfl⟩
      have hp2 : p < 512 := by omega
      have hp0 : ((xt : Int)).tmod 512 = (p : Int) := by rw [Int.tmod_eq_emod_of_nonneg (by omega)]; omega
      have hp1 : ((xt : Int)) % 512 = (p : Int) := by omega
      clear hpn
      have hlen : M.length = 64 := by rw [hF.len, H64.out]
      obtain ⟨u, hu⟩ : ∃ u, M[p / 8]? = some u := ⟨_, List.getElem?_eq_getElem (by omega)⟩
      have hu2 : u < 256 := hF.lt HLt.out u (List.mem_of_getElem? hu)
      have hc : wr.cell? ⟨g, p / 8, none⟩ = some (.int .u8 (u : Int)) := by
        rw [HOk.out.cellAt _ (by omega), vb_get, hu]
        rfl
      have hfz := HOk.out.frozenAt (p / 8)
      have hm8 : p % 8 < 8 := Nat.mod_lt _ (by omega)
      have hx8 := turn_u8 u (p % 8) hu2 hm8
      have hF2 := hF.step (p := p) (by omega)
      have hs := (HOk.out.stored (p / 8) (.int .u8 ((u ^^^ 2 ^ (p % 8) : Nat) : Int))).1
      rw [vb_set, ← flipB_set hu] at hs
      have HXn : Hid (Ext w2 (wr.setCell ⟨g, p / 8, none⟩ (.int .u8 ((u ^^^ 2 ^ (p % 8) : Nat) : Int)))) := Lib.hid (Below.setCell HXk.out hg (p := ⟨g, p / 8, none⟩) (.int .u8 ((u ^^^ 2 ^ (p % 8) : Nat) : Int)))
      have HTn := Lib.hid (HTk.out.set (g := g) (o := p / 8) hne3 (.int .u8 ((u ^^^ 2 ^ (p % 8) : Nat) : Int)))
      generalize flipB M p = M2 at hF2 hs
      have hgd := hF2.good HG.out HLt.out H64.out (by omega)
      have HM2 : Hid (By (wr.setCell ⟨g, p / 8, none⟩ (.int .u8 ((u ^^^ 2 ^ (p % 8) : Nat) : Int))) (some ⟨g, 0, none⟩) 64 c1 M2) := Lib.hid (Bs.of_own hs (hF2.lt HLt.out))
      have HN : Hid (wr.setCell ⟨g, p / 8, none⟩ (.int .u8 ((u ^^^ 2 ^ (p % 8) : Nat) : Int)) |>.ownsRow w2.heap.size 5 1 (.slice (some ⟨g, 0, none⟩) 64 c1) 64 (vb M2)) := Lib.hid hs
      have HF2 := Lib.hid hF2
      clear hF hO hlen hu hF2 hs HM HOk
      go_wp2_with fail
      clear hc hfz hx8 hp0 hp1
      generalize (wr.setCell ⟨g, p / 8, none⟩ (.int .u8 ((u ^^^ 2 ^ (p % 8) : Nat) : Int))) = V at *
      refine (open_any _ _ _ M2 _ (HL.out.ext (HE.out.trans HXn.out)) HM2.out).mono ?_
      have HD : Hid (goodB M2 = decide (L = M2)) := Lib.hid hgd
      have HST : Hid ((stN M2 = 1) = (goodB M2 = true)) := Lib.hid (propext stN_one)
      generalize stN M2 = st at *
      generalize ofl M2 0 = f0
      generalize ofl M2 1 = f1
      generalize ofl M2 2 = f2
      generalize ofl M2 3 = f3
      generalize ofl M2 4 = f4
      rintro r w5 ⟨A5, N5, rfl, _, _, hx⟩
      have hx := hx.alloc (.cells #[.int .i64 f0, .int .i64 f1, .int .i64 f2, .int .i64 f3, .int .i64 f4] 23)
      have HN := Lib.hid (own_ext HN.out hx)
      have HXn := Lib.hid (HXn.out.trans hx)
      have HM2 := Lib.hid (HM2.out.ext hx)
      have HTn := Lib.hid (HTn.out.ext hx)
      clear hx hgd
      by_cases he : L = M2
      · have hst : st = 1 := by rw [HST.out, HD.out, decide_eq_true he]
        subst hst
        have HDe := Lib.hid (decide_eq_true he)
        clear he
        go_wp2_with fail
        generalize (w5.alloc (.cells #[.int .i64 f0, .int .i64 f1, .int .i64 f2, .int .i64 f3, .int .i64 f4] 23)) = W5 at *
        refine (same_by _ _ L M2 _ _ _ _ _ (HB3.out.ext HXn.out) HM2.out).mono ?_
        rw [HDe.out]
        rintro r w6 ⟨rfl, hx⟩
        have HN := Lib.hid (own_ext HN.out hx)
        have HXn := Lib.hid (HXn.out.trans hx)
        have HTn := Lib.hid (HTn.out.ext hx)
        clear hx
        go_wp2_with fail
        go_roundw
        case rel => exact ⟨t + 1, by omega, by go_num, Lib.hid ⟨M2, HF2.out, HN.out⟩, HTn, HXn⟩
        case measure => simp [intOf]; omega
      · have hst : ¬ st = 1 := by rw [HST.out, HD.out, decide_eq_false he]; simp
        have g0 : ((st : Int) == 1) = false := by simp; omega
        have HDe := Lib.hid (decide_eq_false he)
        clear he hst
        go_wp2_with fail
        generalize (w5.alloc (.cells #[.int .i64 f0, .int .i64 f1, .int .i64 f2, .int .i64 f3, .int .i64 f4] 23)) = W5 at *
        refine (same_by _ _ L M2 _ _ _ _ _ (HB3.out.ext HXn.out) HM2.out).mono ?_
        rw [HDe.out]
        rintro r w6 ⟨rfl, hx⟩
        have HN := Lib.hid (own_ext HN.out hx)
        have HXn := Lib.hid (HXn.out.trans hx)
        have HTn := Lib.hid (HTn.out.ext hx)
        clear hx
        go_wp2_with fail
        go_roundw
        case rel => exact ⟨t + 1, by omega, by go_num, Lib.hid ⟨M2, HF2.out, HN.out⟩, HTn, HXn⟩
        case measure => simp [intOf]; omega
    · go_wp2_with fail
      go_ret
      exact ⟨rfl, HE.out.trans HXk.out⟩

set_option maxHeartbeats 6400000 in
set_option maxRecDepth 100000 in
theorem spoilt_true (a b c d e : Int) (A : Option Addr) (n cp : Nat) (l : List Nat) (x y z : Nat) (w : World) (hb : By w A n cp l) (hL : LaidF w) (hn : n ≤ 300) (hx3 : x < 65536) (hy3 : y < 65536) (hz3 : z < 65536) (hz : sealE a b c d e n (sS true) = 0) :
    Calls Tryd.prog 6 #[.agg #[.int .i64 a, .int .i64 b, .int .i64 c, .int .i64 d, .int .i64 e], .slice A n cp, .bool true, .agg #[.int .u16 x, .int .u16 y, .int .u16 z]] w fun r w' => r = .returned (.bool true) ∧ Ext w w' := by
  have hE := ((Ext.refl w).alloc (.cells #[.int .i64 a, .int .i64 b, .int .i64 c, .int .i64 d, .int .i64 e] 23)).alloc (.cells #[.int .u16 x, .int .u16 y, .int .u16 z] 42)
  have hE0 := (Ext.refl (w.alloc (.cells #[.int .i64 a, .int .i64 b, .int .i64 c, .int .i64 d, .int .i64 e] 23))).alloc (.cells #[.int .u16 x, .int .u16 y, .int .u16 z] 42)
  have hT0 := (hE0.block _ (Array.getElem?_eq_some_iff.1 (heap_alloc_new w (.cells #[.int .i64 a, .int .i64 b, .int .i64 c, .int .i64 d, .int .i64 e] 23))).1).trans (heap_alloc_new w (.cells #[.int .i64 a, .int .i64 b, .int .i64 c, .int .i64 d, .int .i64 e] 23))
  have HT := Lib.hid hT0
  have HT3 : Hid (((w.alloc (.cells #[.int .i64 a, .int .i64 b, .int .i64 c, .int .i64 d, .int .i64 e] 23)).alloc (.cells #[.int .u16 x, .int .u16 y, .int .u16 z] 42) ).heap[w.heap.size + 1]? = some (.cells #[.int .u16 x, .int .u16 y, .int .u16 z] 42) ) := Lib.hid (heap_alloc2_new w _ _)
  have hlen : l.length = n := Bs.len hb
  have hz' : sealE a b c d e l.length (sS true) = 0 := by rw [hlen]; exact hz
  have hgood := (sealL_good hz').1
  have hL64 : (sealL a b c d e l (sS true)).length = 128 := (sealL_len hz').1
  have HLt : Hid (∀ v ∈ sealL a b c d e l (sS true), v < 256) := Lib.hid (sealL_lt (Bs.rd hb).lt)
  have HG := Lib.hid hgood
  have H64 : Hid ((sealL a b c d e l (sS true)).length = 128) := Lib.hid hL64
  have HB := Lib.hid hb
  have HL := Lib.hid hL
  have HE := Lib.hid hE
  have HZ := Lib.hid hz
  clear hE hb hL hz hz' hgood hlen hL64 hE0 hT0
  go_enter Tryd.func6, Tryd.ntmps6
  go_wp2_with fail
  refine (fawake_any _ (HL.out.ext HE.out)).mono ?_
  rintro r w1 ⟨rfl, hx⟩
  have HE := Lib.hid (HE.out.trans hx)
  have ht := (hx.block _ (Array.getElem?_eq_some_iff.1 HT.out).1).trans HT.out
  have HT3 := Lib.hid ((hx.block _ (Array.getElem?_eq_some_iff.1 HT3.out).1).trans HT3.out)
  obtain ⟨⟨j0, j1, j2, j3, j4⟩, _⟩ := five_cells ht
  clear hx ht
  go_wp2_with fail
  refine (sealed_any _ _ _ _ _ _ _ _ l true _ (HL.out.ext HE.out) (HB.out.ext HE.out)).mono ?_
  rw [decide_eq_true HZ.out, H64.out]
  generalize hLq : sealL a b c d e l (sS true) = L at *
  rintro r w2 ⟨A3, c3, rfl, hb3, hx⟩
  have HB3 := Lib.hid hb3
  have HE := Lib.hid (HE.out.trans hx)
  have HT3 := Lib.hid ((hx.block _ (Array.getElem?_eq_some_iff.1 HT3.out).1).trans HT3.out)
  clear hx hb3 j0 j1 j2 j3 j4 hLq
  go_wp2_with fail
  refine (copy_by A3 L 128 c3 _ HB3.out (by omega)).mono ?_
  rintro r w3 ⟨A1, c1, rfl, _, hx, hown⟩
  obtain ⟨g, cap, hv⟩ := Go.Joins.ownsRow_form hown (by omega)
  injection hv with hv _ hcap
  subst hv; subst hcap
  have hg := (hown.lt g rfl).1
  have hne3 : w.heap.size + 1 ≠ g := by have := (Array.getElem?_eq_some_iff.1 HT3.out).1; omega
  have HO := Lib.hid hown
  have HX := Lib.hid hx
  have HT3 := Lib.hid ((hx.block _ (Array.getElem?_eq_some_iff.1 HT3.out).1).trans HT3.out)
  have HTr : Hid (Tri w3 (w.heap.size + 1) (tri x y z)) := by
    refine Lib.hid fun t ht => ?_
    rw [cell_of_row _ (w.heap.size + 1) t _ 42 (0, 0) HT3.out]
    have : t = 0 ∨ t = 1 ∨ t = 2 := by omega
    rcases this with rfl | rfl | rfl <;> rfl
  clear hx hown
  go_wp2_with fail
  go_loopw [12] (fun i wr => ∃ t : Nat, t ≤ 3 ∧ i = .int .i64 t ∧ Hid (∃ M, Flipped L 128 t M ∧ wr.ownsRow w2.heap.size 5 1 (.slice (some ⟨g, 0, none⟩) 128 c1) 128 (vb M)) ∧ Hid (Tri wr (w.heap.size + 1) (tri x y z)) ∧ Hid (Ext w2 wr)) (fun i _ => 3 - (intOf i).toNat)
  case atStart => exact ⟨0, Nat.zero_le _, rfl, Lib.hid ⟨L, ⟨[], rfl, by simp, rfl⟩, HO.out⟩, HTr, HX⟩
  case round =>
    obtain ⟨t, ht, rfl, HM, HTk, HXk⟩ := hrel
    clear HO HX HTr
    by_cases hlt : t < 3
    · obtain ⟨M, hF, hO⟩ := HM.out
      have HOk := Lib.hid hO
      have hc3 := HTk.out t hlt
      have hlt16 := tri_lt hx3 hy3 hz3 t
      generalize hxt : tri x y z t = xt at hc3 hlt16
      clear hxt
      obtain ⟨p, hpn⟩ : ∃ p, xt % 1024 = p := ⟨_, rfl⟩
      have hp2 : p < 1024 := by omega
      have hp0 : ((xt : Int)).tmod 1024 = (p : Int) := by rw [Int.tmod_eq_emod_of_nonneg (by omega)]; omega
      have hp1 : ((xt : Int)) % 1024 = (p : Int) := by omega
      clear hpn
      have hlen : M.length = 128 := by rw [hF.len, H64.out]
      obtain ⟨u, hu⟩ : ∃ u, M[p / 8]? = some u := ⟨_, List.getElem?_eq_getElem (by omega)⟩
      have hu2 : u < 256 := hF.lt HLt.out u (List.mem_of_getElem? hu)
      have hc : wr.cell? ⟨g, p / 8, none⟩ = some (.int .u8 (u : Int)) := by
        rw [HOk.out.cellAt _ (by omega), vb_get, hu]
        rfl
      have hfz := HOk.out.frozenAt (p / 8)
      have hm8 : p % 8 < 8 := Nat.mod_lt _ (by omega)
      have hx8 := turn_u8 u (p % 8) hu2 hm8
      have hF2 := hF.step (p := p) (by omega)
      have hs := (HOk.out.stored (p / 8) (.int .u8 ((u ^^^ 2 ^ (p % 8) : Nat) : Int))).1
      rw [vb_set, ← flipB_set hu] at hs
      have HXn : Hid (Ext w2 (wr.setCell ⟨g, p / 8, none⟩ (.int .u8 ((u ^^^ 2 ^ (p % 8) : Nat) : Int)))) := Lib.hid (Below.setCell HXk.out hg (p := ⟨g, p / 8, none⟩) (.int .u8 ((u ^^^ 2 ^ (p % 8) : Nat) : Int)))
      have HTn := Lib.hid (HTk.out.set (g := g) (o := p / 8) hne3 (.int .u8 ((u ^^^ 2 ^ (p % 8) : Nat) : Int)))
      generalize flipB M p = M2 at hF2 hs
      have hgd := hF2.good HG.out HLt.out H64.out (by omega)
      have HM2 : Hid (By (wr.setCell ⟨g, p / 8, none⟩ (.int .u8 ((u ^^^ 2 ^ (p % 8) : Nat) : Int))) (some ⟨g, 0, none⟩) 128 c1 M2) := Lib.hid (Bs.of_own hs (hF2.lt HLt.out))
      have HN : Hid (wr.setCell ⟨g, p / 8, none⟩ (.int .u8 ((u ^^^ 2 ^ (p % 8) : Nat) : Int)) |>.ownsRow w2.heap.size 5 1 (.slice (some ⟨g, 0, none⟩) 128 c1) 128 (vb M2)) := Lib.hid hs
      have HF2 := Lib.hid hF2
      clear hF hO hlen hu hF2 hs HM HOk
      go_wp2_with fail
      clear hc hfz hx8 hp0 hp1
      generalize (wr.setCell ⟨g, p / 8, none⟩ (.int .u8 ((u ^^^ 2 ^ (p % 8) : Nat) : Int))) = V at *
      refine (open_any _ _ _ M2 _ (HL.out.ext (HE.out.trans HXn.out)) HM2.out).mono ?_
      have HD : Hid (goodB M2 = decide (L = M2)) := Lib.hid hgd
      have HST : Hid ((stN M2 = 1) = (goodB M2 = true)) := Lib.hid (propext stN_one)
      generalize stN M2 = st at *
      generalize ofl M2 0 = f0
      generalize ofl M2 1 = f1
      generalize ofl M2 2 = f2
      generalize ofl M2 3 = f3
      generalize ofl M2 4 = f4
      rintro r w5 ⟨A5, N5, rfl, _, _, hx⟩
      have hx := hx.alloc (.cells #[.int .i64 f0, .int .i64 f1, .int .i64 f2, .int .i64 f3, .int .i64 f4] 23)
      have HN := Lib.hid (own_ext HN.out hx)
      have HXn := Lib.hid (HXn.out.trans hx)
      have HM2 := Lib.hid (HM2.out.ext hx)
      have HTn := Lib.hid (HTn.out.ext hx)
      clear hx hgd
      by_cases he : L = M2
      · have hst : st = 1 := by rw [HST.out, HD.out, decide_eq_true he]
        subst hst
        have HDe := Lib.hid (decide_eq_true he)
        clear he
        go_wp2_with fail
        generalize (w5.alloc (.cells #[.int .i64 f0, .int .i64 f1, .int .i64 f2, .int .i64 f3, .int .i64 f4] 23)) = W5 at *
        refine (same_by _ _ L M2 _ _ _ _ _ (HB3.out.ext HXn.out) HM2.out).mono ?_
        rw [HDe.out]
        rintro r w6 ⟨rfl, hx⟩
        have HN := Lib.hid (own_ext HN.out hx)
        have HXn := Lib.hid (HXn.out.trans hx)
        have HTn := Lib.hid (HTn.out.ext hx)
        clear hx
        go_wp2_with fail
        go_roundw
        case rel => exact ⟨t + 1, by omega, by go_num, Lib.hid ⟨M2, HF2.out, HN.out⟩, HTn, HXn⟩
        case measure => simp [intOf]; omega
      · have hst : ¬ st = 1 := by rw [HST.out, HD.out, decide_eq_false he]; simp
        have g0 : ((st : Int) == 1) = false := by simp; omega
        have HDe := Lib.hid (decide_eq_false he)
        clear he hst
        go_wp2_with fail
        generalize (w5.alloc (.cells #[.int .i64 f0, .int .i64 f1, .int .i64 f2, .int .i64 f3, .int .i64 f4] 23)) = W5 at *
        refine (same_by _ _ L M2 _ _ _ _ _ (HB3.out.ext HXn.out) HM2.out).mono ?_
        rw [HDe.out]
        rintro r w6 ⟨rfl, hx⟩
        have HN := Lib.hid (own_ext HN.out hx)
        have HXn := Lib.hid (HXn.out.trans hx)
        have HTn := Lib.hid (HTn.out.ext hx)
        clear hx
        go_wp2_with fail
        go_roundw
        case rel => exact ⟨t + 1, by omega, by go_num, Lib.hid ⟨M2, HF2.out, HN.out⟩, HTn, HXn⟩
        case measure => simp [intOf]; omega
    · go_wp2_with fail
      go_ret
      exact ⟨rfl, HE.out.trans HXk.out⟩

set_option maxRecDepth 100000 in
set_option maxHeartbeats 3200000 in
theorem spoilt_none (a b c d e : Int) (A : Option Addr) (n cp : Nat) (l : List Nat) (two : Bool) (x y z : Nat) (w : World) (hb : By w A n cp l) (hL : LaidF w) (hn : n ≤ 300) (hz : ¬ sealE a b c d e n (sS two) = 0) :
    Calls Tryd.prog 6 #[.agg #[.int .i64 a, .int .i64 b, .int .i64 c, .int .i64 d, .int .i64 e], .slice A n cp, .bool two, .agg #[.int .u16 x, .int .u16 y, .int .u16 z]] w fun r w' => r = .returned (.bool true) ∧ Ext w w' := by
  have hE := ((Ext.refl w).alloc (.cells #[.int .i64 a, .int .i64 b, .int .i64 c, .int .i64 d, .int .i64 e] 23)).alloc (.cells #[.int .u16 x, .int .u16 y, .int .u16 z] 42)
  have hE0 := (Ext.refl (w.alloc (.cells #[.int .i64 a, .int .i64 b, .int .i64 c, .int .i64 d, .int .i64 e] 23))).alloc (.cells #[.int .u16 x, .int .u16 y, .int .u16 z] 42)
  have hT0 := (hE0.block _ (Array.getElem?_eq_some_iff.1 (heap_alloc_new w (.cells #[.int .i64 a, .int .i64 b, .int .i64 c, .int .i64 d, .int .i64 e] 23))).1).trans (heap_alloc_new w (.cells #[.int .i64 a, .int .i64 b, .int .i64 c, .int .i64 d, .int .i64 e] 23))
  have HT := Lib.hid hT0
  have HE := Lib.hid hE
  have HL := Lib.hid hL
  have HB : Hid (By w A n cp l) := Lib.hid hb
  have HD := Lib.hid hz
  have HM : Hid (mayB a b c d e = true → 43 < n) := Lib.hid fun hm => by
    rcases Nat.lt_or_ge 43 n with h | h
    · exact h
    · refine absurd (sealE_zero.2 ⟨?_, hm, ?_⟩) hz
      · cases two <;> decide
      · have : 43 ≤ roomN (sS two) := by cases two <;> decide
        omega
  clear hb hL hz hE hE0 hT0
  go_enter Tryd.func6, Tryd.ntmps6
  go_wp2_with fail
  refine (fawake_any _ (HL.out.ext HE.out)).mono ?_
  rintro r w1 ⟨rfl, hx⟩
  have HE := Lib.hid (HE.out.trans hx)
  have ht := (hx.block _ (Array.getElem?_eq_some_iff.1 HT.out).1).trans HT.out
  have HT := Lib.hid ht
  obtain ⟨⟨j0, j1, j2, j3, j4⟩, _⟩ := five_cells ht
  clear hx ht
  go_wp2_with fail
  refine (sealed_any _ _ _ _ _ _ _ _ l two _ (HL.out.ext HE.out) (HB.out.ext HE.out)).mono ?_
  rw [decide_eq_false HD.out]
  rintro r w2 ⟨A3, c3, rfl, _, hx⟩
  generalize (sealL a b c d e l (sS two)).length = m3 at *
  have HE := Lib.hid (HE.out.trans hx)
  have ht := (hx.block _ (Array.getElem?_eq_some_iff.1 HT.out).1).trans HT.out
  clear hx j0 j1 j2 j3 j4
  obtain ⟨⟨j0, j1, j2, j3, j4⟩, _⟩ := five_cells ht
  clear ht
  go_wp2_with fail
  refine (may_any _ _ _ _ _ _ (HL.out.ext HE.out).a.t).mono ?_
  by_cases hm : mayB a b c d e = true
  · have hlong := HM.out hm
    have hl2 : decide ((43 : Int) < (n : Int)) = true := by simp; omega
    rw [hm]
    rintro r w4 ⟨rfl, hx⟩
    have HE := Lib.hid (HE.out.trans hx)
    clear hx j0 j1 j2 j3 j4 hm
    go_wp2_with fail
    go_ret
    exact ⟨rfl, HE.out⟩
  · rw [show mayB a b c d e = false by simpa using hm]
    rintro r w4 ⟨rfl, hx⟩
    have HE := Lib.hid (HE.out.trans hx)
    clear hx j0 j1 j2 j3 j4 hm
    go_wp2_with fail
    go_ret
    exact ⟨rfl, HE.out⟩

set_option maxRecDepth 100000 in
set_option maxHeartbeats 3200000 in
theorem frameSpoilt_law (a b c d e : Int) (A : Option Addr) (n cp : Nat) (l : List Nat) (two : Bool) (x y z : Int) (w : World) (hb : Bs w w.heap.size A n cp l) (hbits : (Lit.int .u16 x).wf = true ∧ (Lit.int .u16 y).wf = true ∧ (Lit.int .u16 z).wf = true) (hL : LaidF w) :
    Calls Tryd.prog 6 #[.agg #[.int .i64 a, .int .i64 b, .int .i64 c, .int .i64 d, .int .i64 e], .slice A n cp, .bool two, .agg #[.int .u16 x, .int .u16 y, .int .u16 z]] w fun r w' => r = .returned (.bool true) ∧ Below w.heap.size w w' := by
  show Calls Tryd.prog 6 #[.agg #[.int .i64 a, .int .i64 b, .int .i64 c, .int .i64 d, .int .i64 e], .slice A n cp, .bool two, .agg #[.int .u16 x, .int .u16 y, .int .u16 z]] w fun r w' => r = .returned (.bool true) ∧ Ext w w'
  have h1 := bounds_u16 hbits.1
  have h2 := bounds_u16 hbits.2.1
  have h3 := bounds_u16 hbits.2.2
  obtain ⟨x, rfl⟩ := Int.eq_ofNat_of_zero_le h1.1
  obtain ⟨y, rfl⟩ := Int.eq_ofNat_of_zero_le h2.1
  obtain ⟨z, rfl⟩ := Int.eq_ofNat_of_zero_le h3.1
  have hcap := hb.cap
  have hmost := hb.most
  by_cases hn : 300 < n
  · have HE := Lib.hid (((Ext.refl w).alloc (.cells #[.int .i64 a, .int .i64 b, .int .i64 c, .int .i64 d, .int .i64 e] 23)).alloc (.cells #[.int .u16 x, .int .u16 y, .int .u16 z] 42) )
    have HL := Lib.hid hL
    clear hb hL
    go_enter Tryd.func6, Tryd.ntmps6
    go_wp2_with fail
    refine (fawake_any _ (HL.out.ext HE.out)).mono ?_
    rintro r w1 ⟨rfl, hx⟩
    have HE := Lib.hid (HE.out.trans hx)
    clear hx
    go_wp2_with fail
    go_ret
    exact ⟨rfl, HE.out⟩
  by_cases hz : sealE a b c d e n (sS two) = 0
  · cases two
    · exact spoilt_false a b c d e A n cp l x y z w hb hL (by omega) (by omega) (by omega) (by omega) hz
    · exact spoilt_true a b c d e A n cp l x y z w hb hL (by omega) (by omega) (by omega) (by omega) hz
  · exact spoilt_none a b c d e A n cp l two x y z w hb hL (by omega) hz
end Go.Proofs.YtgcjilifmcianaaDoor
