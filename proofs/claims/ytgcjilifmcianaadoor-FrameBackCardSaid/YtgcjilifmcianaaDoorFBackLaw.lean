/-
  The walk of FrameBack: what is sealed is good, of that tag and body; what is good, sealed again, is those bytes.
-/
import Derived.Test.YtgcjilifmcianaaDoorFSealed
import Derived.Test.YtgcjilifmcianaaDoorTNeq
namespace Go.Proofs.YtgcjilifmcianaaDoor
open Go Go.RowKit

theorem good_re {l : List Nat} (hg : goodB l = true) (hl : ∀ x ∈ l, x < 256) : sealE (ofl l 0) (ofl l 1) (ofl l 2) (ofl l 3) (ofl l 4) (obl l).length ((l.length / 64 : Nat) : Int) = 0 ∧ sealL (ofl l 0) (ofl l 1) (ofl l 2) (ofl l 3) (ofl l 4) (obl l) ((l.length / 64 : Nat) : Int) = l := by
  obtain ⟨_, hp, hn, hf⟩ := good_parts hg
  obtain ⟨_, hle⟩ := okB_parts (good_okB hg)
  have hE : sealE (ofl l 0) (ofl l 1) (ofl l 2) (ofl l 3) (ofl l 4) (obl l).length ((l.length / 64 : Nat) : Int) = 0 := by
    rw [ofl_yes hg, ofl_yes hg, ofl_yes hg, ofl_yes hg, ofl_yes hg, obl_yes hg]
    exact sealE_yes (room_pos (good_sz hg)) (may_pf hp) (by rw [bodyOf_len hle]; exact hn)
  refine ⟨hE, ?_⟩
  rw [sealL_yes hE, ofl_yes hg, ofl_yes hg, ofl_yes hg, ofl_yes hg, ofl_yes hg, obl_yes hg, (pl_of hp (tagOf_lt hl)).1, Int.toNat_natCast]
  exact hf.symm

set_option maxRecDepth 100000 in
set_option maxHeartbeats 12800000 in
theorem frameBack_law (a b c d e : Int) (A : Option Addr) (n cp : Nat) (l : List Nat) (s : Int) (A2 : Option Addr) (n2 cp2 : Nat) (l2 : List Nat) (w : World) (hb : Bs w w.heap.size A n cp l) (_ : (Lit.int .i64 s).wf = true) (hb2 : Bs w w.heap.size A2 n2 cp2 l2) (hL : LaidF w) :
    Calls Tryd.prog 5 #[.agg #[.int .i64 a, .int .i64 b, .int .i64 c, .int .i64 d, .int .i64 e], .slice A n cp, .int .i64 s, .slice A2 n2 cp2] w fun r w' => r = .returned (.bool true) ∧ Below w.heap.size w w' := by
  show Calls Tryd.prog 5 #[.agg #[.int .i64 a, .int .i64 b, .int .i64 c, .int .i64 d, .int .i64 e], .slice A n cp, .int .i64 s, .slice A2 n2 cp2] w fun r w' => r = .returned (.bool true) ∧ Ext w w'
  have hE := (Ext.refl w).alloc (.cells #[.int .i64 a, .int .i64 b, .int .i64 c, .int .i64 d, .int .i64 e] 23)
  have HT := Lib.hid (heap_alloc_new w (.cells #[.int .i64 a, .int .i64 b, .int .i64 c, .int .i64 d, .int .i64 e] 23))
  have hcap := hb.cap
  have hmost := hb.most
  have hcap2 := hb2.cap
  have hmost2 := hb2.most
  have HE := Lib.hid hE
  have HB : Hid (By w A n cp l) := Lib.hid hb
  have HB2 : Hid (By w A2 n2 cp2 l2) := Lib.hid hb2
  have HN : Hid (l.length = n) := Lib.hid hb.len
  have HN2 : Hid (l2.length = n2) := Lib.hid hb2.len
  have HL := Lib.hid hL
  clear hE hb hL hb2
  by_cases hn : 300 < n
  · go_enter Tryd.func5, Tryd.ntmps5
    go_wp2_with fail
    refine (fawake_any _ (HL.out.ext HE.out)).mono ?_
    rintro r w1 ⟨rfl, hx⟩
    have HE := Lib.hid (HE.out.trans hx)
    clear hx
    go_wp2_with fail
    go_ret
    exact ⟨rfl, HE.out⟩
  by_cases hn2 : 300 < n2
  · go_enter Tryd.func5, Tryd.ntmps5
    go_wp2_with fail
    refine (fawake_any _ (HL.out.ext HE.out)).mono ?_
    rintro r w1 ⟨rfl, hx⟩
    have HE := Lib.hid (HE.out.trans hx)
    clear hx
    go_wp2_with fail
    go_ret
    exact ⟨rfl, HE.out⟩
  go_enter Tryd.func5, Tryd.ntmps5
  go_wp2_with fail
  refine (fawake_any _ (HL.out.ext HE.out)).mono ?_
  rintro r w1 ⟨rfl, hx⟩
  have HE := Lib.hid (HE.out.trans hx)
  have ht := (hx.block _ (Array.getElem?_eq_some_iff.1 HT.out).1).trans HT.out
  have HT := Lib.hid ht
  obtain ⟨⟨i0, i1, i2, i3, i4⟩, _⟩ := five_cells ht
  clear hx ht
  go_wp2_with fail
  refine (seal_any _ _ _ _ _ _ _ _ _ l _ (HL.out.ext HE.out) (HB.out.ext HE.out)).mono ?_
  by_cases hz : sealE a b c d e n s = 0
  · have hz' : sealE a b c d e l.length s = 0 := by rw [HN.out]; exact hz
    obtain ⟨hgood, hbody, q0, q1, q2, q3, q4⟩ := sealL_good hz'
    obtain ⟨hlen, hs1, hs2⟩ := sealL_len hz'
    rw [hz]
    obtain ⟨S, rfl⟩ := Int.eq_ofNat_of_zero_le (show 0 ≤ s by omega)
    rw [Int.toNat_natCast] at hlen
    have HST := Lib.hid (stN_good hgood)
    have HBO := Lib.hid hbody
    have HQ : Hid ((ofl (sealL a b c d e l S) 0 : Int) = a ∧ (ofl (sealL a b c d e l S) 1 : Int) = b ∧ (ofl (sealL a b c d e l S) 2 : Int) = c ∧ (ofl (sealL a b c d e l S) 3 : Int) = d ∧ (ofl (sealL a b c d e l S) 4 : Int) = e) := Lib.hid ⟨q0, q1, q2, q3, q4⟩
    rw [hlen]
    clear hz hz' hgood hbody q0 q1 q2 q3 q4 hlen
    generalize sealL a b c d e l S = L at *
    rintro r w2 ⟨A3, c3, rfl, hb3, hx⟩
    have HB3 := Lib.hid hb3
    have HE := Lib.hid (HE.out.trans hx)
    have ht := (hx.block _ (Array.getElem?_eq_some_iff.1 HT.out).1).trans HT.out
    have HT := Lib.hid ht
    clear hx ht hb3 i0 i1 i2 i3 i4
    go_wp2_with fail
    refine (open_any A3 (64 * S) c3 L _ (HL.out.ext HE.out) HB3.out).mono ?_
    rw [HST.out, HBO.out, HQ.out.1, HQ.out.2.1, HQ.out.2.2.1, HQ.out.2.2.2.1, HQ.out.2.2.2.2]
    rintro r w3 ⟨A4, N4, rfl, hb4, _, hx⟩
    obtain rfl : N4 = n := by rw [← HN.out]; exact hb4.len.symm
    have ht := (hx.block _ (Array.getElem?_eq_some_iff.1 HT.out).1).trans HT.out
    have hxa := (Ext.refl w3).alloc (.cells #[.int .i64 a, .int .i64 b, .int .i64 c, .int .i64 d, .int .i64 e] 23)
    have ht2 := (hxa.block _ (Array.getElem?_eq_some_iff.1 ht).1).trans ht
    have hr := heap_alloc_new w3 (.cells #[.int .i64 a, .int .i64 b, .int .i64 c, .int .i64 d, .int .i64 e] 23)
    have HB4 := Lib.hid (hb4.ext hxa)
    have HE := Lib.hid (HE.out.trans (hx.trans hxa))
    have hq := tag_neq a b c d e a b c d e
    obtain ⟨⟨j0, j1, j2, j3, j4⟩, _⟩ := five_cells hr
    obtain ⟨⟨i0, i1, i2, i3, i4⟩, _⟩ := five_cells ht2
    clear hx hxa ht ht2 hr hb4
    go_wp2_with fail
    refine (same_by _ _ l l _ _ _ _ _ HB4.out (HB.out.ext HE.out)).mono ?_
    rw [decide_eq_true (rfl : l = l)]
    rintro r w5 ⟨rfl, hx⟩
    have HE := Lib.hid (HE.out.trans hx)
    clear hx i0 i1 i2 i3 i4 j0 j1 j2 j3 j4 hq
    go_wp2_with fail
    refine (open_any A2 n2 cp2 l2 _ (HL.out.ext HE.out) (HB2.out.ext HE.out)).mono ?_
    by_cases hg : goodB l2 = true
    · obtain ⟨hrE, hrL⟩ := good_re hg HB2.out.rd.lt
      have hdiv : l2.length / 64 = n2 / 64 := by rw [HN2.out]
      rw [hdiv] at hrE hrL
      rw [stN_good hg]
      rintro r w6 ⟨A6, N6, rfl, hb6, _, hx⟩
      obtain rfl : N6 = (obl l2).length := hb6.len.symm
      have HRE := Lib.hid hrE
      have HRL := Lib.hid hrL
      clear hrE hrL hdiv hg
      generalize (ofl l2 0) = f0 at *
      generalize (ofl l2 1) = f1 at *
      generalize (ofl l2 2) = f2 at *
      generalize (ofl l2 3) = f3 at *
      generalize (ofl l2 4) = f4 at *
      generalize obl l2 = body2 at *
      generalize hK : body2.length = K at *
      have HK := Lib.hid hK
      have hr := heap_alloc_new w6 (.cells #[.int .i64 f0, .int .i64 f1, .int .i64 f2, .int .i64 f3, .int .i64 f4] 23)
      have HE := Lib.hid (HE.out.trans (hx.alloc (.cells #[.int .i64 f0, .int .i64 f1, .int .i64 f2, .int .i64 f3, .int .i64 f4] 23)))
      have HB6 := Lib.hid (hb6.ext ((Ext.refl w6).alloc (.cells #[.int .i64 f0, .int .i64 f1, .int .i64 f2, .int .i64 f3, .int .i64 f4] 23)))
      obtain ⟨⟨k0, k1, k2, k3, k4⟩, _⟩ := five_cells hr
      clear hx hb6 hr hK
      go_wp2_with fail
      refine (seal_any _ _ _ _ _ _ _ _ _ body2 _ (HL.out.ext HE.out) HB6.out).mono ?_
      rw [show sealE (f0 : Int) f1 f2 f3 f4 K ((n2 : Int) / 64) = 0 from HRE.out, show sealL (f0 : Int) f1 f2 f3 f4 body2 ((n2 : Int) / 64) = l2 from HRL.out, HN2.out]
      rintro r w7 ⟨A7, c7, rfl, hb7, hx⟩
      have HB7 := Lib.hid hb7
      have HE := Lib.hid (HE.out.trans hx)
      clear hx hb7 k0 k1 k2 k3 k4
      go_wp2_with fail
      refine (same_by _ _ l2 l2 _ _ _ _ _ HB7.out (HB2.out.ext HE.out)).mono ?_
      rw [decide_eq_true (rfl : l2 = l2)]
      rintro r w8 ⟨rfl, hx⟩
      have HE := Lib.hid (HE.out.trans hx)
      clear hx
      go_wp2_with fail
      go_ret
      exact ⟨rfl, HE.out⟩
    · have hg' : goodB l2 = false := by simpa using hg
      have hst : ¬ stN l2 = 1 := fun h => hg (stN_one.1 h)
      have g0 : ((stN l2 : Int) != 1) = true := by simp; omega
      rw [ofl_no hg', ofl_no hg', ofl_no hg', ofl_no hg', ofl_no hg', obl_no hg']
      rintro r w6 ⟨A6, N6, rfl, hb6, _, hx⟩
      obtain rfl : N6 = 0 := hb6.len.symm
      clear hg hg' hst hb6
      generalize stN l2 = st at *
      have hr := heap_alloc_new w6 (.cells #[.int .i64 0, .int .i64 0, .int .i64 0, .int .i64 0, .int .i64 0] 23)
      have HE := Lib.hid (HE.out.trans (hx.alloc (.cells #[.int .i64 0, .int .i64 0, .int .i64 0, .int .i64 0, .int .i64 0] 23)))
      have hq0 := tag_eql 0 0 0 0 0 0 0 0 0 0
      obtain ⟨⟨k0, k1, k2, k3, k4⟩, _⟩ := five_cells hr
      clear hx hr
      go_wp2_with fail
      go_ret
      exact ⟨rfl, HE.out⟩
  · have hne : (sealE a b c d e n s == 0) = false := by simpa using hz
    rw [sealE_zero] at hz
    have HZ := Lib.hid hz
    rintro r w2 ⟨A3, c3, rfl, _, hx⟩
    have HE := Lib.hid (HE.out.trans hx)
    have ht := (hx.block _ (Array.getElem?_eq_some_iff.1 HT.out).1).trans HT.out
    generalize sealE a b c d e n s = E at *
    generalize (sealL a b c d e l s).length = m3 at *
    clear hx i0 i1 i2 i3 i4 hz
    obtain ⟨⟨i0, i1, i2, i3, i4⟩, _⟩ := five_cells ht
    clear ht
    go_wp2_with fail
    refine (may_any _ _ _ _ _ _ (HL.out.ext HE.out).a.t).mono ?_
    by_cases hm : mayB a b c d e = true
    · rw [hm]
      rintro r w3 ⟨rfl, hx⟩
      have HE := Lib.hid (HE.out.trans hx)
      clear hx i0 i1 i2 i3 i4
      go_wp2_with fail
      refine (room_any _ _).mono ?_
      by_cases hr : n ≤ roomN s
      · have hr0 : roomN s = 0 := by
          by_cases h0 : roomN s = 0
          · exact h0
          · exact absurd ⟨h0, hm, hr⟩ HZ.out
        rw [hr0] at hr ⊢
        rintro r w4 ⟨rfl, rfl⟩
        go_wp2_with fail
        refine (room_any _ _).mono ?_
        rw [hr0]
        rintro r w4 ⟨rfl, rfl⟩
        clear hr0 hm HZ
        go_wp2_with fail
        refine (open_any A2 n2 cp2 l2 _ (HL.out.ext HE.out) (HB2.out.ext HE.out)).mono ?_
        by_cases hg : goodB l2 = true
        · obtain ⟨hrE, hrL⟩ := good_re hg HB2.out.rd.lt
          have hdiv : l2.length / 64 = n2 / 64 := by rw [HN2.out]
          rw [hdiv] at hrE hrL
          rw [stN_good hg]
          rintro r w6 ⟨A6, N6, rfl, hb6, _, hx⟩
          obtain rfl : N6 = (obl l2).length := hb6.len.symm
          have HRE := Lib.hid hrE
          have HRL := Lib.hid hrL
          clear hrE hrL hdiv hg
          generalize (ofl l2 0) = f0 at *
          generalize (ofl l2 1) = f1 at *
          generalize (ofl l2 2) = f2 at *
          generalize (ofl l2 3) = f3 at *
          generalize (ofl l2 4) = f4 at *
          generalize obl l2 = body2 at *
          generalize hK : body2.length = K at *
          have HK := Lib.hid hK
          have hr := heap_alloc_new w6 (.cells #[.int .i64 f0, .int .i64 f1, .int .i64 f2, .int .i64 f3, .int .i64 f4] 23)
          have HE := Lib.hid (HE.out.trans (hx.alloc (.cells #[.int .i64 f0, .int .i64 f1, .int .i64 f2, .int .i64 f3, .int .i64 f4] 23)))
          have HB6 := Lib.hid (hb6.ext ((Ext.refl w6).alloc (.cells #[.int .i64 f0, .int .i64 f1, .int .i64 f2, .int .i64 f3, .int .i64 f4] 23)))
          obtain ⟨⟨k0, k1, k2, k3, k4⟩, _⟩ := five_cells hr
          clear hx hb6 hr hK
          go_wp2_with fail
          refine (seal_any _ _ _ _ _ _ _ _ _ body2 _ (HL.out.ext HE.out) HB6.out).mono ?_
          rw [show sealE (f0 : Int) f1 f2 f3 f4 K ((n2 : Int) / 64) = 0 from HRE.out, show sealL (f0 : Int) f1 f2 f3 f4 body2 ((n2 : Int) / 64) = l2 from HRL.out, HN2.out]
          rintro r w7 ⟨A7, c7, rfl, hb7, hx⟩
          have HB7 := Lib.hid hb7
          have HE := Lib.hid (HE.out.trans hx)
          clear hx hb7 k0 k1 k2 k3 k4
          go_wp2_with fail
          refine (same_by _ _ l2 l2 _ _ _ _ _ HB7.out (HB2.out.ext HE.out)).mono ?_
          rw [decide_eq_true (rfl : l2 = l2)]
          rintro r w8 ⟨rfl, hx⟩
          have HE := Lib.hid (HE.out.trans hx)
          clear hx
          go_wp2_with fail
          go_ret
          exact ⟨rfl, HE.out⟩
        · have hg' : goodB l2 = false := by simpa using hg
          have hst : ¬ stN l2 = 1 := fun h => hg (stN_one.1 h)
          have g0 : ((stN l2 : Int) != 1) = true := by simp; omega
          rw [ofl_no hg', ofl_no hg', ofl_no hg', ofl_no hg', ofl_no hg', obl_no hg']
          rintro r w6 ⟨A6, N6, rfl, hb6, _, hx⟩
          obtain rfl : N6 = 0 := hb6.len.symm
          clear hg hg' hst hb6
          generalize stN l2 = st at *
          have hr := heap_alloc_new w6 (.cells #[.int .i64 0, .int .i64 0, .int .i64 0, .int .i64 0, .int .i64 0] 23)
          have HE := Lib.hid (HE.out.trans (hx.alloc (.cells #[.int .i64 0, .int .i64 0, .int .i64 0, .int .i64 0, .int .i64 0] 23)))
          have hq0 := tag_eql 0 0 0 0 0 0 0 0 0 0
          obtain ⟨⟨k0, k1, k2, k3, k4⟩, _⟩ := five_cells hr
          clear hx hr
          go_wp2_with fail
          go_ret
          exact ⟨rfl, HE.out⟩
      · clear hm HZ
        rintro r w4 ⟨rfl, rfl⟩
        generalize roomN s = R at *
        go_wp2_with fail
        refine (open_any A2 n2 cp2 l2 _ (HL.out.ext HE.out) (HB2.out.ext HE.out)).mono ?_
        by_cases hg : goodB l2 = true
        · obtain ⟨hrE, hrL⟩ := good_re hg HB2.out.rd.lt
          have hdiv : l2.length / 64 = n2 / 64 := by rw [HN2.out]
          rw [hdiv] at hrE hrL
          rw [stN_good hg]
          rintro r w6 ⟨A6, N6, rfl, hb6, _, hx⟩
          obtain rfl : N6 = (obl l2).length := hb6.len.symm
          have HRE := Lib.hid hrE
          have HRL := Lib.hid hrL
          clear hrE hrL hdiv hg
          generalize (ofl l2 0) = f0 at *
          generalize (ofl l2 1) = f1 at *
          generalize (ofl l2 2) = f2 at *
          generalize (ofl l2 3) = f3 at *
          generalize (ofl l2 4) = f4 at *
          generalize obl l2 = body2 at *
          generalize hK : body2.length = K at *
          have HK := Lib.hid hK
          have hr := heap_alloc_new w6 (.cells #[.int .i64 f0, .int .i64 f1, .int .i64 f2, .int .i64 f3, .int .i64 f4] 23)
          have HE := Lib.hid (HE.out.trans (hx.alloc (.cells #[.int .i64 f0, .int .i64 f1, .int .i64 f2, .int .i64 f3, .int .i64 f4] 23)))
          have HB6 := Lib.hid (hb6.ext ((Ext.refl w6).alloc (.cells #[.int .i64 f0, .int .i64 f1, .int .i64 f2, .int .i64 f3, .int .i64 f4] 23)))
          obtain ⟨⟨k0, k1, k2, k3, k4⟩, _⟩ := five_cells hr
          clear hx hb6 hr hK
          go_wp2_with fail
          refine (seal_any _ _ _ _ _ _ _ _ _ body2 _ (HL.out.ext HE.out) HB6.out).mono ?_
          rw [show sealE (f0 : Int) f1 f2 f3 f4 K ((n2 : Int) / 64) = 0 from HRE.out, show sealL (f0 : Int) f1 f2 f3 f4 body2 ((n2 : Int) / 64) = l2 from HRL.out, HN2.out]
          rintro r w7 ⟨A7, c7, rfl, hb7, hx⟩
          have HB7 := Lib.hid hb7
          have HE := Lib.hid (HE.out.trans hx)
          clear hx hb7 k0 k1 k2 k3 k4
          go_wp2_with fail
          refine (same_by _ _ l2 l2 _ _ _ _ _ HB7.out (HB2.out.ext HE.out)).mono ?_
          rw [decide_eq_true (rfl : l2 = l2)]
          rintro r w8 ⟨rfl, hx⟩
          have HE := Lib.hid (HE.out.trans hx)
          clear hx
          go_wp2_with fail
          go_ret
          exact ⟨rfl, HE.out⟩
        · have hg' : goodB l2 = false := by simpa using hg
          have hst : ¬ stN l2 = 1 := fun h => hg (stN_one.1 h)
          have g0 : ((stN l2 : Int) != 1) = true := by simp; omega
          rw [ofl_no hg', ofl_no hg', ofl_no hg', ofl_no hg', ofl_no hg', obl_no hg']
          rintro r w6 ⟨A6, N6, rfl, hb6, _, hx⟩
          obtain rfl : N6 = 0 := hb6.len.symm
          clear hg hg' hst hb6
          generalize stN l2 = st at *
          have hr := heap_alloc_new w6 (.cells #[.int .i64 0, .int .i64 0, .int .i64 0, .int .i64 0, .int .i64 0] 23)
          have HE := Lib.hid (HE.out.trans (hx.alloc (.cells #[.int .i64 0, .int .i64 0, .int .i64 0, .int .i64 0, .int .i64 0] 23)))
          have hq0 := tag_eql 0 0 0 0 0 0 0 0 0 0
          obtain ⟨⟨k0, k1, k2, k3, k4⟩, _⟩ := five_cells hr
          clear hx hr
          go_wp2_with fail
          go_ret
          exact ⟨rfl, HE.out⟩
    · rw [show mayB a b c d e = false by simpa using hm]
      rintro r w3 ⟨rfl, hx⟩
      have HE := Lib.hid (HE.out.trans hx)
      clear hx i0 i1 i2 i3 i4 hm HZ
      go_wp2_with fail
      refine (open_any A2 n2 cp2 l2 _ (HL.out.ext HE.out) (HB2.out.ext HE.out)).mono ?_
      by_cases hg : goodB l2 = true
      · obtain ⟨hrE, hrL⟩ := good_re hg HB2.out.rd.lt
        have hdiv : l2.length / 64 = n2 / 64 := by rw [HN2.out]
        rw [hdiv] at hrE hrL
        rw [stN_good hg]
        rintro r w6 ⟨A6, N6, rfl, hb6, _, hx⟩
        obtain rfl : N6 = (obl l2).length := hb6.len.symm
        have HRE := Lib.hid hrE
        have HRL := Lib.hid hrL
        clear hrE hrL hdiv hg
        generalize (ofl l2 0) = f0 at *
        generalize (ofl l2 1) = f1 at *
        generalize (ofl l2 2) = f2 at *
        generalize (ofl l2 3) = f3 at *
        generalize (ofl l2 4) = f4 at *
        generalize obl l2 = body2 at *
        generalize hK : body2.length = K at *
        have HK := Lib.hid hK
        have hr := heap_alloc_new w6 (.cells #[.int .i64 f0, .int .i64 f1, .int .i64 f2, .int .i64 f3, .int .i64 f4] 23)
        have HE := Lib.hid (HE.out.trans (hx.alloc (.cells #[.int .i64 f0, .int .i64 f1, .int .i64 f2, .int .i64 f3, .int .i64 f4] 23)))
        have HB6 := Lib.hid (hb6.ext ((Ext.refl w6).alloc (.cells #[.int .i64 f0, .int .i64 f1, .int .i64 f2, .int .i64 f3, .int .i64 f4] 23)))
        obtain ⟨⟨k0, k1, k2, k3, k4⟩, _⟩ := five_cells hr
        clear hx hb6 hr hK
        go_wp2_with fail
        refine (seal_any _ _ _ _ _ _ _ _ _ body2 _ (HL.out.ext HE.out) HB6.out).mono ?_
        rw [show sealE (f0 : Int) f1 f2 f3 f4 K ((n2 : Int) / 64) = 0 from HRE.out, show sealL (f0 : Int) f1 f2 f3 f4 body2 ((n2 : Int) / 64) = l2 from HRL.out, HN2.out]
        rintro r w7 ⟨A7, c7, rfl, hb7, hx⟩
        have HB7 := Lib.hid hb7
        have HE := Lib.hid (HE.out.trans hx)
        clear hx hb7 k0 k1 k2 k3 k4
        go_wp2_with fail
        refine (same_by _ _ l2 l2 _ _ _ _ _ HB7.out (HB2.out.ext HE.out)).mono ?_
        rw [decide_eq_true (rfl : l2 = l2)]
        rintro r w8 ⟨rfl, hx⟩
        have HE := Lib.hid (HE.out.trans hx)
        clear hx
        go_wp2_with fail
        go_ret
        exact ⟨rfl, HE.out⟩
      · have hg' : goodB l2 = false := by simpa using hg
        have hst : ¬ stN l2 = 1 := fun h => hg (stN_one.1 h)
        have g0 : ((stN l2 : Int) != 1) = true := by simp; omega
        rw [ofl_no hg', ofl_no hg', ofl_no hg', ofl_no hg', ofl_no hg', obl_no hg']
        rintro r w6 ⟨A6, N6, rfl, hb6, _, hx⟩
        obtain rfl : N6 = 0 := hb6.len.symm
        clear hg hg' hst hb6
        generalize stN l2 = st at *
        have hr := heap_alloc_new w6 (.cells #[.int .i64 0, .int .i64 0, .int .i64 0, .int .i64 0, .int .i64 0] 23)
        have HE := Lib.hid (HE.out.trans (hx.alloc (.cells #[.int .i64 0, .int .i64 0, .int .i64 0, .int .i64 0, .int .i64 0] 23)))
        have hq0 := tag_eql 0 0 0 0 0 0 0 0 0 0
        obtain ⟨⟨k0, k1, k2, k3, k4⟩, _⟩ := five_cells hr
        clear hx hr
        go_wp2_with fail
        go_ret
        exact ⟨rfl, HE.out⟩
end Go.Proofs.YtgcjilifmcianaaDoor
