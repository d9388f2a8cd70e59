/-
  The walk of FrameElsewhere: a frame is good for its own replica, region and place alone; blank bytes are blank anywhere.
-/
import Derived.Test.YtgcjilifmcianaaDoorFSealed
import Derived.Test.YtgcjilifmcianaaDoorFMine
import Derived.Test.YtgcjilifmcianaaDoorTNeq
namespace Go.Proofs.YtgcjilifmcianaaDoor
open Go Go.RowKit

theorem blank128 (x y z : Int) : stM (List.replicate 128 0) x y z = 0 ∧ (∀ k, mfl (List.replicate 128 0) x y z k = 0) ∧ mbl (List.replicate 128 0) x y z = [] := by
  have hz : zeroB (List.replicate 128 0) = true := by decide +kernel
  have hg := zero_bad hz
  obtain ⟨h1, h2, h3⟩ := mine_bad (x := x) (y := y) (z := z) hg
  exact ⟨by rw [h1]; exact stN_blank (by decide +kernel) hz, fun k => by rw [h2, ofl_no hg], by rw [h3, obl_no hg]⟩

set_option maxRecDepth 100000 in
set_option maxHeartbeats 12800000 in
theorem frameElsewhere_law (a b c d e : Int) (A : Option Addr) (n cp : Nat) (l : List Nat) (x y z : Int) (w : World) (hb : Bs w w.heap.size A n cp l) (_ : (Lit.int .i64 x).wf = true) (_ : (Lit.int .i64 y).wf = true) (_ : (Lit.int .i64 z).wf = true) (hL : LaidF w) :
    Calls Tryd.prog 8 #[.agg #[.int .i64 a, .int .i64 b, .int .i64 c, .int .i64 d, .int .i64 e], .slice A n cp, .int .i64 x, .int .i64 y, .int .i64 z] w fun r w' => r = .returned (.bool true) ∧ Below w.heap.size w w' := by
  show Calls Tryd.prog 8 #[.agg #[.int .i64 a, .int .i64 b, .int .i64 c, .int .i64 d, .int .i64 e], .slice A n cp, .int .i64 x, .int .i64 y, .int .i64 z] w fun r w' => r = .returned (.bool true) ∧ Ext w w'
  have hE := (Ext.refl w).alloc (.cells #[.int .i64 a, .int .i64 b, .int .i64 c, .int .i64 d, .int .i64 e] 23)
  have HT := Lib.hid (heap_alloc_new w (.cells #[.int .i64 a, .int .i64 b, .int .i64 c, .int .i64 d, .int .i64 e] 23))
  have hcap := hb.cap
  have hmost := hb.most
  have HE := Lib.hid hE
  have HB : Hid (By w A n cp l) := Lib.hid hb
  have HN : Hid (l.length = n) := Lib.hid hb.len
  have HL := Lib.hid hL
  clear hE hb hL
  by_cases hn : 300 < n
  · go_enter Tryd.func8, Tryd.ntmps8
    go_wp2_with fail
    refine (fawake_any _ (HL.out.ext HE.out)).mono ?_
    rintro r w1 ⟨rfl, hx⟩
    have HE := Lib.hid (HE.out.trans hx)
    clear hx
    go_wp2_with fail
    go_ret
    exact ⟨rfl, HE.out⟩
  have mk128 : ∀ w, (Instr.makeSlice 24 (.int .i64 128) (.int .i64 128)).run Tryd.prog w = .ok (.slice (some ⟨w.heap.size, 0, none⟩) 128 128) (w.alloc (zrow 128)) := mk_zeros 128 (by omega)
  go_enter Tryd.func8, Tryd.ntmps8
  go_wp2_with fail
  refine (fawake_any _ (HL.out.ext HE.out)).mono ?_
  rintro r w1 ⟨rfl, hx⟩
  have HE := Lib.hid (HE.out.trans hx)
  have ht := (hx.block _ (Array.getElem?_eq_some_iff.1 HT.out).1).trans HT.out
  have HT := Lib.hid ht
  clear hx ht
  go_wp2_with fail
  refine (mine_any _ 128 128 (List.replicate 128 0) x y z _ (HL.out.ext (HE.out.alloc _)) (By.zrow w1 128 (by omega))).mono ?_
  rw [(blank128 x y z).1, (blank128 x y z).2.1, (blank128 x y z).2.1, (blank128 x y z).2.1, (blank128 x y z).2.1, (blank128 x y z).2.1, (blank128 x y z).2.2]
  rintro r w2 ⟨A2, N2, rfl, _, hx⟩
  have hx := (((Ext.refl w1).alloc (zrow 128)).trans hx).alloc (.cells #[.int .i64 0, .int .i64 0, .int .i64 0, .int .i64 0, .int .i64 0] 23)
  have ht := (hx.block _ (Array.getElem?_eq_some_iff.1 HT.out).1).trans HT.out
  have HT := Lib.hid ht
  have HE := Lib.hid (HE.out.trans hx)
  obtain ⟨⟨i0, i1, i2, i3, i4⟩, _⟩ := five_cells ht
  clear hx ht mk128
  go_wp2_with fail
  refine (sealed_any _ _ _ _ _ _ _ _ l true _ (HL.out.ext HE.out) (HB.out.ext HE.out)).mono ?_
  rw [show sS true = 2 from rfl]
  by_cases hz : sealE a b c d e n 2 = 0
  · have hz' : sealE a b c d e l.length 2 = 0 := by rw [HN.out]; exact hz
    obtain ⟨hgood, hbody, q0, q1, q2, q3, q4⟩ := sealL_good hz'
    have hown : mineB (sealL a b c d e l 2) a b c = true := (mineB_iff hgood).2 ⟨q0, q1, q2⟩
    obtain ⟨o1, o2, o3⟩ := mine_yes hgood hown
    rw [decide_eq_true hz]
    have HG := Lib.hid hgood
    have HO : Hid (stM (sealL a b c d e l 2) a b c = 1 ∧ mbl (sealL a b c d e l 2) a b c = l ∧ (mfl (sealL a b c d e l 2) a b c 0 : Int) = a ∧ (mfl (sealL a b c d e l 2) a b c 1 : Int) = b ∧ (mfl (sealL a b c d e l 2) a b c 2 : Int) = c ∧ (mfl (sealL a b c d e l 2) a b c 3 : Int) = d ∧ (mfl (sealL a b c d e l 2) a b c 4 : Int) = e) := Lib.hid ⟨o1, by rw [o3, hbody], by rw [o2, q0], by rw [o2, q1], by rw [o2, q2], by rw [o2, q3], by rw [o2, q4]⟩
    have HQ : Hid ((ofl (sealL a b c d e l 2) 0 : Int) = a ∧ (ofl (sealL a b c d e l 2) 1 : Int) = b ∧ (ofl (sealL a b c d e l 2) 2 : Int) = c) := Lib.hid ⟨q0, q1, q2⟩
    clear hz hz' hgood hbody q0 q1 q2 q3 q4 o1 o2 o3 hown
    generalize sealL a b c d e l 2 = L at *
    rintro r w3 ⟨A3, c3, rfl, hb3, hx⟩
    have HB3 := Lib.hid hb3
    have HE := Lib.hid (HE.out.trans hx)
    have ht := (hx.block _ (Array.getElem?_eq_some_iff.1 HT.out).1).trans HT.out
    have HT := Lib.hid ht
    clear hx hb3 i0 i1 i2 i3 i4
    obtain ⟨⟨i0, i1, i2, i3, i4⟩, _⟩ := five_cells ht
    clear ht
    go_wp2_with fail
    refine (mine_any A3 L.length c3 L a b c _ (HL.out.ext HE.out) HB3.out).mono ?_
    rw [HO.out.1, HO.out.2.1, HO.out.2.2.1, HO.out.2.2.2.1, HO.out.2.2.2.2.1, HO.out.2.2.2.2.2.1, HO.out.2.2.2.2.2.2]
    rintro r w4 ⟨A4, N4, rfl, hb4, hx⟩
    obtain rfl : N4 = n := by rw [← HN.out]; exact hb4.len.symm
    have hxa := (Ext.refl w4).alloc (.cells #[.int .i64 a, .int .i64 b, .int .i64 c, .int .i64 d, .int .i64 e] 23)
    have HR := Lib.hid (heap_alloc_new w4 (.cells #[.int .i64 a, .int .i64 b, .int .i64 c, .int .i64 d, .int .i64 e] 23))
    have ht := ((hx.trans hxa).block _ (Array.getElem?_eq_some_iff.1 HT.out).1).trans HT.out
    have HT := Lib.hid ht
    have HB4 := Lib.hid (hb4.ext hxa)
    have HB3 := Lib.hid (HB3.out.ext (hx.trans hxa))
    have HE := Lib.hid (HE.out.trans (hx.trans hxa))
    clear hx hxa ht hb4 i0 i1 i2 i3 i4
    go_wp2_with fail
    generalize hw4 : w4.heap.size = h4 at *
    clear hw4
    generalize (w4.alloc (.cells #[.int .i64 a, .int .i64 b, .int .i64 c, .int .i64 d, .int .i64 e] 23)) = W4 at *
    refine (mine_any A3 L.length c3 L x y z _ (HL.out.ext HE.out) HB3.out).mono ?_
    by_cases hm : mineB L x y z = true
    · obtain ⟨m1, m2, m3⟩ := mine_yes HG.out hm
      obtain ⟨rfl, rfl, rfl⟩ := (show a = x ∧ b = y ∧ c = z by
        obtain ⟨e0, e1, e2⟩ := (mineB_iff HG.out).1 hm
        exact ⟨by rw [← e0]; exact HQ.out.1.symm, by rw [← e1]; exact HQ.out.2.1.symm, by rw [← e2]; exact HQ.out.2.2.symm⟩)
      rw [HO.out.1, HO.out.2.1, HO.out.2.2.1, HO.out.2.2.2.1, HO.out.2.2.2.2.1, HO.out.2.2.2.2.2.1, HO.out.2.2.2.2.2.2]
      clear m1 m2 m3 hm
      rintro r w4 ⟨A5, N5, rfl, _, hx⟩
      have hx := hx.alloc (.cells #[.int .i64 a, .int .i64 b, .int .i64 c, .int .i64 d, .int .i64 e] 23)
      have ht1 := (hx.block _ (Array.getElem?_eq_some_iff.1 HT.out).1).trans HT.out
      have hr1 := (hx.block _ (Array.getElem?_eq_some_iff.1 HR.out).1).trans HR.out
      have HB4 := Lib.hid (HB4.out.ext hx)
      have HE := Lib.hid (HE.out.trans hx)
      obtain ⟨⟨i0, i1, i2, i3, i4⟩, _⟩ := five_cells ht1
      obtain ⟨⟨j0, j1, j2, j3, j4⟩, _⟩ := five_cells hr1
      have hq := tag_eql a b c d e a b c d e
      clear hx ht1 hr1
      go_wp2_with fail
      refine (same_by _ _ l l _ _ _ _ _ HB4.out (HB.out.ext HE.out)).mono ?_
      rw [decide_eq_true (rfl : l = l)]
      rintro r w5 ⟨rfl, hx⟩
      have HE := Lib.hid (HE.out.trans hx)
      clear hx i0 i1 i2 i3 i4 j0 j1 j2 j3 j4 hq
      go_wp2_with fail
      go_ret
      exact ⟨rfl, HE.out⟩
    · have hm' : mineB L x y z = false := by simpa using hm
      have hne : ¬ (a = x ∧ b = y ∧ c = z) := fun h => hm ((mineB_iff HG.out).2 ⟨by rw [HQ.out.1]; exact h.1, by rw [HQ.out.2.1]; exact h.2.1, by rw [HQ.out.2.2]; exact h.2.2⟩)
      obtain ⟨m1, m2, m3⟩ := mine_no HG.out hm'
      rw [m1, m2, m2, m2, m2, m2, m3]
      clear m1 m2 m3 hm hm'
      by_cases h0 : a = x
      · by_cases h1 : b = y
        · have h2 : ¬ c = z := fun h => hne ⟨h0, h1, h⟩
          subst h0; subst h1
          have g2 : (z == c) = false := by simpa using fun h => h2 h.symm
          clear hne h2
          rintro r w4 ⟨A5, N5, rfl, _, hx⟩
          have hx := hx.alloc (.cells #[.int .i64 0, .int .i64 0, .int .i64 0, .int .i64 0, .int .i64 0] 23)
          have ht1 := (hx.block _ (Array.getElem?_eq_some_iff.1 HT.out).1).trans HT.out
          have hr1 := (hx.block _ (Array.getElem?_eq_some_iff.1 HR.out).1).trans HR.out
          have HB4 := Lib.hid (HB4.out.ext hx)
          have HE := Lib.hid (HE.out.trans hx)
          obtain ⟨⟨i0, i1, i2, i3, i4⟩, _⟩ := five_cells ht1
          obtain ⟨⟨j0, j1, j2, j3, j4⟩, _⟩ := five_cells hr1
          have hq := tag_eql a b c d e a b c d e
          clear hx ht1 hr1
          go_wp2_with fail
          refine (same_by _ _ l l _ _ _ _ _ HB4.out (HB.out.ext HE.out)).mono ?_
          rw [decide_eq_true (rfl : l = l)]
          rintro r w5 ⟨rfl, hx⟩
          have HE := Lib.hid (HE.out.trans hx)
          clear hx i0 i1 i2 i3 i4 j0 j1 j2 j3 j4 hq
          go_wp2_with fail
          go_ret
          exact ⟨rfl, HE.out⟩
        · subst h0
          have g1 : (y == b) = false := by simpa using fun h => h1 h.symm
          clear hne h1
          rintro r w4 ⟨A5, N5, rfl, _, hx⟩
          have hx := hx.alloc (.cells #[.int .i64 0, .int .i64 0, .int .i64 0, .int .i64 0, .int .i64 0] 23)
          have ht1 := (hx.block _ (Array.getElem?_eq_some_iff.1 HT.out).1).trans HT.out
          have hr1 := (hx.block _ (Array.getElem?_eq_some_iff.1 HR.out).1).trans HR.out
          have HB4 := Lib.hid (HB4.out.ext hx)
          have HE := Lib.hid (HE.out.trans hx)
          obtain ⟨⟨i0, i1, i2, i3, i4⟩, _⟩ := five_cells ht1
          obtain ⟨⟨j0, j1, j2, j3, j4⟩, _⟩ := five_cells hr1
          have hq := tag_eql a b c d e a b c d e
          clear hx ht1 hr1
          go_wp2_with fail
          refine (same_by _ _ l l _ _ _ _ _ HB4.out (HB.out.ext HE.out)).mono ?_
          rw [decide_eq_true (rfl : l = l)]
          rintro r w5 ⟨rfl, hx⟩
          have HE := Lib.hid (HE.out.trans hx)
          clear hx i0 i1 i2 i3 i4 j0 j1 j2 j3 j4 hq
          go_wp2_with fail
          go_ret
          exact ⟨rfl, HE.out⟩
      · have g0 : (x == a) = false := by simpa using fun h => h0 h.symm
        clear hne h0
        rintro r w4 ⟨A5, N5, rfl, _, hx⟩
        have hx := hx.alloc (.cells #[.int .i64 0, .int .i64 0, .int .i64 0, .int .i64 0, .int .i64 0] 23)
        have ht1 := (hx.block _ (Array.getElem?_eq_some_iff.1 HT.out).1).trans HT.out
        have hr1 := (hx.block _ (Array.getElem?_eq_some_iff.1 HR.out).1).trans HR.out
        have HB4 := Lib.hid (HB4.out.ext hx)
        have HE := Lib.hid (HE.out.trans hx)
        obtain ⟨⟨i0, i1, i2, i3, i4⟩, _⟩ := five_cells ht1
        obtain ⟨⟨j0, j1, j2, j3, j4⟩, _⟩ := five_cells hr1
        have hq := tag_eql a b c d e a b c d e
        clear hx ht1 hr1
        go_wp2_with fail
        refine (same_by _ _ l l _ _ _ _ _ HB4.out (HB.out.ext HE.out)).mono ?_
        rw [decide_eq_true (rfl : l = l)]
        rintro r w5 ⟨rfl, hx⟩
        have HE := Lib.hid (HE.out.trans hx)
        clear hx i0 i1 i2 i3 i4 j0 j1 j2 j3 j4 hq
        go_wp2_with fail
        go_ret
        exact ⟨rfl, HE.out⟩
  · rw [decide_eq_false hz]
    rw [sealE_zero] at hz
    have h88 : roomN 2 = 88 := rfl
    rw [h88] at hz
    rintro r w3 ⟨A3, c3, rfl, _, hx⟩
    generalize (sealL a b c d e l 2).length = m3 at *
    have HE := Lib.hid (HE.out.trans hx)
    have ht := (hx.block _ (Array.getElem?_eq_some_iff.1 HT.out).1).trans HT.out
    clear hx i0 i1 i2 i3 i4
    obtain ⟨⟨i0, i1, i2, i3, i4⟩, _⟩ := five_cells ht
    have HZ := Lib.hid hz
    clear ht hz h88
    go_wp2_with fail
    refine (may_any _ _ _ _ _ _ (HL.out.ext HE.out).a.t).mono ?_
    by_cases hm : mayB a b c d e = true
    · have hlong : 88 < n := by
        rcases Nat.lt_or_ge 88 n with h | h
        · exact h
        · exact absurd ⟨by omega, hm, h⟩ HZ.out
      have hl2 : decide ((88 : Int) < (n : Int)) = true := by simp; omega
      rw [hm]
      rintro r w4 ⟨rfl, hx⟩
      have HE := Lib.hid (HE.out.trans hx)
      clear hx hm HZ i0 i1 i2 i3 i4
      go_wp2_with fail
      go_ret
      exact ⟨rfl, HE.out⟩
    · rw [show mayB a b c d e = false by simpa using hm]
      rintro r w4 ⟨rfl, hx⟩
      have HE := Lib.hid (HE.out.trans hx)
      clear hx hm HZ i0 i1 i2 i3 i4
      go_wp2_with fail
      go_ret
      exact ⟨rfl, HE.out⟩
end Go.Proofs.YtgcjilifmcianaaDoor
