/-
  The walk of ChooseMore: with one more that has nothing what is told is told again.
-/
import Derived.Test.YtinflpheogglhaaK00
import Derived.Test.YtinflpheogglhaaK06
import Derived.Test.YtinflpheogglhaaK07
namespace Go.Proofs.Ytinflpheogglhaa
open Go Go.RowKit
theorem own_set {w : World} {B m k : Nat} {e : TypeId} {v : Value} {l : List Rpt} (r : Rpt) (hl : l.length = m) (hk : k < m) (h : w.ownsRow B e 11 v m (l.flatMap rptC)) :
    ∃ g cap, v = .slice (some ⟨g, 0, none⟩) m cap ∧ B ≤ g ∧ m ≤ cap ∧ w.there g (k * 11) 11 ∧ Ls rptC 11 (w.setCells g (k * 11) (rptC r)) (w.setCells g (k * 11) (rptC r)).heap.size (some ⟨g, 0, none⟩) m cap (l.set k r) := by
  obtain ⟨A, c, hv, hL⟩ := Ls.of_row (cells := rptC) (fun _ => rfl) (by omega) hl h
  rcases h.2 with ⟨rfl, hz⟩ | ⟨g, cap, cur, rfl, hB, hg, hn, hm, hs, ht⟩
  · omega
  · injection hv with h1 h2 h3
    subst h1 h3
    have hth : w.there g (k * 11) 11 := there_row hg _ _ (by
      have h1 := congrArg List.length ht
      rw [List.length_take, flat_len (cells := rptC) (N := 11) (fun _ => rfl), hl, Array.length_toList] at h1
      omega)
    refine ⟨g, cap, rfl, hB, hn, hth, ⟨by rw [List.length_set]; exact hl, hn, hL.most, fun _ => ⟨g, 0, rfl, (Array.getElem?_eq_some_iff.1 (row_setCells hg _ _)).1, fun j a ha q x hx => ?_⟩, fun e => by cases e⟩⟩
    have hq : q < 11 := (List.getElem?_eq_some_iff.1 hx).1
    rw [Nat.zero_add]
    by_cases hj : j = k
    · subst hj
      rw [List.getElem?_set_self (show j < l.length by rw [hl]; exact hk)] at ha
      obtain rfl : r = a := Option.some.inj ha
      rw [World.cell?_setCells_in g (rptC r) (j * 11) w (fun i hi => (hth i hi).1) q hq]
      rw [List.getElem?_eq_getElem (show q < (rptC r).length from hq)] at hx
      exact hx
    · rw [List.getElem?_set_ne (fun e => hj e.symm)] at ha
      rw [World.cell?_setCells_out g (rptC r) (k * 11) w ⟨g, j * 11 + q, none⟩ (fun _ _ => by
        rcases Nat.lt_or_ge j k with h | h
        · left
          show j * 11 + q < k * 11
          omega
        · right
          show k * 11 + 11 ≤ j * 11 + q
          omega)]
      obtain ⟨g', o', e1, _, hc⟩ := hL.rd (by omega)
      injection e1 with e1
      injection e1 with e1 e2
      subst e1 e2
      have := hc j a ha q x hx
      rw [Nat.zero_add] at this
      exact this
set_option maxRecDepth 100000 in
set_option maxHeartbeats 1600000 in
theorem chooseMore_law (n : Int) (A : Option Addr) (m c : Nat) (l : List Rpt) (which : Int) (w : World) (_hn : (Lit.int .i64 n).wf = true) (hl : Ls rptC 11 w w.heap.size A m c l ∧ ∀ a ∈ l, a.Wf) (_hwh : (Lit.int .i64 which).wf = true) :
    Calls Try.prog 8 #[.int .i64 n, .slice A m c, .int .i64 which] w fun e w' => e = .returned (.bool true) ∧ Below w.heap.size w w' := by
  show Calls Try.prog 8 #[.int .i64 n, .slice A m c, .int .i64 which] w fun e w' => e = .returned (.bool true) ∧ Ext w w'
  obtain ⟨h, _⟩ := hl
  obtain ⟨i0, hi, hz0, hz1, hz2⟩ := info_parts report_info
  have hcap := h.cap
  have hmost := h.most
  have H := Lib.hid h
  cases hok : okR n l with
  | false =>
    have HOK := Lib.hid hok
    clear h hok
    go_enter Try.func8, Try.ntmps8
    go_wp2_with fail
    refine (chawake_of _).mono ?_
    rintro _ w1 ⟨rfl, hx1⟩
    have H1 := Lib.hid ((H.out.below hx1).moreB hx1.size)
    have HX1 := Lib.hid hx1
    clear hx1
    go_wp2_with fail
    refine (chmay_of n A m c l _ H1.out).mono ?_
    rintro _ w2 ⟨rfl, hw⟩
    subst hw
    rw [HOK.out]
    go_wp2_with fail
    go_ret
    exact ⟨rfl, HX1.out⟩
  | true =>
    obtain ⟨h3, hlen, hst⟩ := okR_iff.1 hok
    rw [h.len] at hlen
    obtain rfl := hlen
    have hm : m = 3 ∨ m = 5 ∨ m = 7 := by omega
    have HLN := Lib.hid h.len
    have HOK := Lib.hid hok
    have hm0 : ¬ m = 0 := by omega
    have hm7 : m ≤ 7 := by omega
    obtain ⟨k, hk, hkw⟩ := wrap_modR which m (by omega) (by omega)
    have HKW := Lib.hid hkw
    clear h hok h3 hst hm hkw
    go_enter Try.func8, Try.ntmps8
    go_wp2_with fail
    refine (chawake_of _).mono ?_
    rintro _ w1 ⟨rfl, hx1⟩
    have H1 := Lib.hid ((H.out.below hx1).moreB hx1.size)
    have HX1 := Lib.hid hx1
    clear hx1
    go_wp2_with fail
    refine (chmay_of _ A _ c l _ H1.out).mono ?_
    rintro _ w2 ⟨rfl, hw⟩
    subst hw
    rw [HOK.out]
    go_upto_region 6 with (fail)
    simp only [HKW.out]
    obtain ⟨g, o, r, rfl, _, hb, hrc⟩ := Ls.rpt H1.out hk
    have c1 := hrc.2.1
    have HBR := Lib.hid hb
    clear hrc hb
    by_cases hs : r.st = 0
    · rw [show (r.st : Int) = 0 by omega] at c1
      have HS := Lib.hid hs
      clear hs
      have ho : (w1.alloc (.cells #[] 54)).ownsRow w1.heap.size 54 11 (.slice (some ⟨w1.heap.size, 0, none⟩) 0 0) 0 [] := World.ownsRow_lit w1 #[] 0 (Nat.le_refl _) (by unfold maxLen; omega) rfl
      have HO := Lib.hid ho
      have HLA := Lib.hid (H1.out.below ((Ext.refl w1).alloc (.cells #[] 54)))
      have HSZ := Lib.hid ((Ext.refl w1).alloc (.cells #[] 54)).size
      clear ho
      go_wp2_with (at_builtin; refine wpList_append_ls (cells := rptC) (N := 11) (fun _ => rfl) (by omega) rptC_one rfl _ _ 22 rfl w1.heap.size 54 i0 (.agg #[.int .i64 0, .int .u8 0, .int .i64 0, .int .i64 0, .int .u8 0, .int .i64 0, .int .i64 0, .int .u8 0, .string ByteArray.empty, .string ByteArray.empty, .string ByteArray.empty]) 112 Try.underlying22 hi hz0 hz1 hz2 rfl _ 0 [] rfl HO.out _ (some ⟨g, o, none⟩) m c l rfl HLA.out (by unfold maxLen; omega) (by omega) HSZ.out ?_)
      intro v2 w2 hown hg
      have hx2 : Ext w1 w2 := Below.grown ((Ext.refl w1).alloc _) hg HSZ.out (fun g hg' => (HO.out.lt g hg').1)
      try rw [Nat.zero_add] at hown
      try rw [List.nil_append] at hown
      obtain ⟨g2, cap2, rfl, hB2, hc2, hth, hL2⟩ := own_set nothR HLN.out hk hown
      have HTH := Lib.hid hth
      have HX2 := Lib.hid (HX1.out.trans hx2)
      have HX3 := Lib.hid (ext_setCells (HX1.out.trans hx2) (Nat.le_trans HX1.out.size hB2) (k * 11) (rptC nothR))
      have H3 := Lib.hid ((H1.out.below (ext_setCells hx2 hB2 (k * 11) (rptC nothR))).moreB (ext_setCells hx2 hB2 (k * 11) (rptC nothR)).size)
      have HL2 := Lib.hid hL2
      clear hown hg hx2 hL2 hth hB2 c1
      go_upto_region 10 with (refine wpList_store_mid rfl 54 _ _ rfl g2 (k * 11) #[.int .i64 0, .int .u8 1, .int .i64 0, .int .i64 0, .int .u8 0, .int .i64 0, .int .i64 0, .int .u8 0, .string ⟨#[]⟩, .string ⟨#[]⟩, .string ⟨#[]⟩] (by simp [Act.eval]) rfl HTH.out (by kernel_rfl) (by simp [Value.oneCell']) ?_)
      change Code.wp _ _ _ _ (w2.setCells g2 (k * 11) (rptC nothR))
      generalize w2.setCells g2 (k * 11) (rptC nothR) = V at *
      have hsame : (decR (m : Int) l).1 = 0 ∨ decR (m : Int) (l.set k nothR) = decR (m : Int) l := by
        by_cases h0 : (decR (m : Int) l).1 = 0
        · exact .inl h0
        · exact .inr (more_same HOK.out HBR.out HS.out h0)
      have hE1 := (dec_ok HOK.out).2
      have hE2 := (dec_ok (more_ok (k := k) HOK.out)).2
      have HC1 := Lib.hid (decide_of (m : Int) (some ⟨g, o, none⟩) m c l V H3.out)
      have HC2 := Lib.hid (fun V h => decide_of (m : Int) (some ⟨g2, 0, none⟩) m cap2 (l.set k nothR) V h)
      rw [hE1] at HC1
      rw [hE2] at HC2
      have h3 := decR_three (m : Int) l
      have h4 := decR_three (m : Int) (l.set k nothR)
      generalize decR (m : Int) l = D at hsame HC1 h3
      generalize decR (m : Int) (l.set k nothR) = D2 at hsame HC2 h4
      obtain ⟨q, E⟩ := D
      obtain ⟨q2, E2⟩ := D2
      dsimp only at hsame HC1 HC2 h3 h4
      have HSAME := Lib.hid hsame
      clear hE1 hE2 hsame
      go_wp2_with fail
      refine HC1.out.mono ?_
      rintro _ w4 ⟨rfl, hx⟩
      have HX4 := Lib.hid (HX3.out.trans hx)
      have HL4 := Lib.hid ((HL2.out.below hx).moreB hx.size)
      clear hx HC1 HX3 HL2 H3 HX2 HTH HX1 H1 HO HLA HSZ
      go_upto_region 11 with (fail)
      have hg := heap_alloc_new w4 (.cells #[.int .u8 (E.k : Int), .int .i64 E.cl, .int .i64 E.sq, .int .u8 (E.ok : Int), .string E.key, .string E.old, .string E.val] 27)
      have hx := (Ext.refl w4).alloc (.cells #[.int .u8 (E.k : Int), .int .i64 E.cl, .int .i64 E.sq, .int .u8 (E.ok : Int), .string E.key, .string E.old, .string E.val] 27)
      generalize (w4.alloc (.cells #[.int .u8 (E.k : Int), .int .i64 E.cl, .int .i64 E.sq, .int .u8 (E.ok : Int), .string E.key, .string E.old, .string E.val] 27)) = w5 at *
      have HX5 := Lib.hid (HX4.out.trans hx)
      have HL5 := Lib.hid ((HL4.out.below hx).moreB hx.size)
      have HG := Lib.hid hg
      generalize w4.heap.size = b1 at *
      clear hg hx HX4 HL4
      have HC3 := Lib.hid (HC2.out w5 HL5.out)
      clear HC2
      go_wp2_with fail
      refine HC3.out.mono ?_
      rintro _ w6 ⟨rfl, hx⟩
      have HX6 := Lib.hid (HX5.out.trans hx)
      have HG6 := Lib.hid (keep_rowB hx HG.out)
      clear hx HC3 HX5 HG
      go_upto_region 12 with (fail)
      have hg := heap_alloc_new w6 (.cells #[.int .u8 (E2.k : Int), .int .i64 E2.cl, .int .i64 E2.sq, .int .u8 (E2.ok : Int), .string E2.key, .string E2.old, .string E2.val] 27)
      have hx := (Ext.refl w6).alloc (.cells #[.int .u8 (E2.k : Int), .int .i64 E2.cl, .int .i64 E2.sq, .int .u8 (E2.ok : Int), .string E2.key, .string E2.old, .string E2.val] 27)
      generalize (w6.alloc (.cells #[.int .u8 (E2.k : Int), .int .i64 E2.cl, .int .i64 E2.sq, .int .u8 (E2.ok : Int), .string E2.key, .string E2.old, .string E2.val] 27)) = w7 at *
      have HX7 := Lib.hid (HX6.out.trans hx)
      have HG7 := Lib.hid (And.intro (keep_rowB hx HG6.out) hg)
      generalize w6.heap.size = b2 at *
      clear hg hx HX6 HG6
      obtain ⟨⟨d0, d1, d2, d3, d4, d5, d6⟩, _⟩ := ent_row HG7.out.1
      obtain ⟨⟨f0, f1, f2, f3, f4, f5, f6⟩, _⟩ := ent_row HG7.out.2
      by_cases hq0 : q = 0
      · subst hq0
        go_wp2_with fail
        go_ret
        exact ⟨rfl, HX7.out⟩
      · have he := (HSAME.out).resolve_left hq0
        have he1 : q2 = q := congrArg Prod.fst he
        have he2 : E2 = E := congrArg Prod.snd he
        subst he1 he2
        have hq := fun V => cent_eql E2 E2 V
        rw [eqE_self] at hq
        have hz : ((q2 : Int) == 0) = false := by rw [st_is0]; exact decide_eq_false hq0
        clear hq0 he h3 h4
        go_wp2_with fail
        go_ret
        exact ⟨rfl, HX7.out⟩
    · have hsz : ((r.st : Int) != 0) = true := by rw [bne, st_is0, decide_eq_false hs]; rfl
      clear hs
      go_wp2_with fail
      go_ret
      exact ⟨rfl, HX1.out⟩
end Go.Proofs.Ytinflpheogglhaa
