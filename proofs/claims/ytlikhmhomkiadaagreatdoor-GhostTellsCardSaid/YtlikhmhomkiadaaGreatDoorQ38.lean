/-
  The document's observers over its disk: asked, Place.
  The contract of Honest.
-/
import Derived.Test.YtlikhmhomkiadaaGreatDoorQ34
import Derived.Test.YtlikhmhomkiadaaGreatDoorQ37
import Derived.Deep.RegionHeld3
namespace Go.Proofs.YtlikhmhomkiadaaGreatDoor
set_option maxRecDepth 100000
open Go Go.RowKit

theorem rd_rows {w : World} {d : Nat} {p : Nat → Nat} {m : DM} (h : RD w d p m) : ∃ gr cr gm cm gl cl,
    w.cell? ⟨d, 0, none⟩ = some (.slice (some ⟨gr, 0, none⟩) m.size cr) ∧ w.cell? ⟨d, 1, none⟩ = some (.slice (some ⟨gm, 0, none⟩) m.size cm) ∧ w.cell? ⟨d, 2, none⟩ = some (.slice (some ⟨gl, 0, none⟩) m.size cl) := by
  obtain ⟨⟨q, hq⟩, _⟩ := h
  obtain ⟨⟨d0, d1, d2, _⟩, _⟩ := hq.head.cells
  exact ⟨_, _, _, _, _, _, d0, d1, d2⟩
theorem rasked_of {w : World} {d : Nat} {p : Nat → Nat} {m : DM} (h : RD w d p m) (hs : m.size = 156) (r g pl : Int) :
    Calls Tryz.prog 52 #[.pointer (some ⟨d, 0, none⟩), .int .i64 r, .int .i64 g, .int .i64 pl] w fun e w' => e = .returned (.bool (decide (placeG 156 r g pl = 0))) ∧ Ext w w' := by
  obtain ⟨gr, cr, _, _, _, _, c0, _, _⟩ := rd_rows h
  rw [hs] at c0
  clear h hs
  by_cases h0 : r < 0
  · have HE : Hid (decide (placeG 156 r g pl = 0) = false) := Lib.hid (decide_eq_false (by unfold placeG knownG; rw [if_pos (by rw [if_neg (by omega), if_pos (by omega)]; omega), if_neg (by omega), if_pos (by omega)]; omega))
    rw [HE.out]
    clear HE
    go_enter Tryz.func52, Tryz.ntmps52
    go_wp2_with fail
    go_ret
    exact ⟨rfl, Ext.refl _⟩
  by_cases h1 : 6 < r
  · have HE : Hid (decide (placeG 156 r g pl = 0) = false) := Lib.hid (decide_eq_false (by unfold placeG knownG; rw [if_pos (by rw [if_neg (by omega), if_pos (by omega)]; omega), if_neg (by omega), if_pos (by omega)]; omega))
    rw [HE.out]
    clear HE
    go_enter Tryz.func52, Tryz.ntmps52
    go_wp2_with fail
    go_ret
    exact ⟨rfl, Ext.refl _⟩
  have hk : knownG 156 r = 0 := by unfold knownG; rw [if_neg (by omega), if_neg (by omega)]
  have HE : Hid (decide (placeG 156 r g pl = 0) = decide (0 ≤ firstS g pl)) := Lib.hid (decide_eq_decide.2 (by
    unfold placeG
    rw [hk, if_neg (by simp)]
    by_cases hf : firstS g pl < 0
    · rw [if_pos hf]; omega
    · rw [if_neg hf]; omega))
  rw [HE.out]
  clear HE hk
  by_cases hf : 0 ≤ firstS g pl
  · have HF := Lib.hid (decide_eq_true hf)
    rw [HF.out]
    clear HF
    go_enter Tryz.func52, Tryz.ntmps52
    go_wp2_with fail
    refine (rfirst_any g pl _).mono ?_
    rintro e w1 ⟨rfl, hx⟩
    have HX : Hid (Ext w w1) := Lib.hid (by first | exact hx | (subst hx; exact Ext.refl _))
    clear hx
    go_wp2_with fail
    go_ret
    exact ⟨rfl, HX.out⟩
  · have HF := Lib.hid (decide_eq_false hf)
    rw [HF.out]
    go_enter Tryz.func52, Tryz.ntmps52
    go_wp2_with fail
    refine (rfirst_any g pl _).mono ?_
    rintro e w1 ⟨rfl, hx⟩
    have HX : Hid (Ext w w1) := Lib.hid (by first | exact hx | (subst hx; exact Ext.refl _))
    clear hx
    go_wp2_with fail
    go_ret
    first | exact ⟨rfl, HX.out⟩ | exact ⟨by rw [← HF.out]; rfl, HX.out⟩
/-- The bytes at rest of n sectors from a on, lost or not. -/
def DM.restR (m : DM) (a : Int) (n : Nat) : List Nat := catS (fun s => m.rest.getD s.toNat []) a n
theorem at_lostE {m : DM} {j : Nat} (hj : j < m.size) : (m.at_ (j : Int)).2.1 = m.lost.getD j false := by
  have hh : m.has (j : Int) = true := DM.has_iff.2 ⟨by omega, by omega⟩
  unfold DM.at_
  rw [if_neg (by rw [hh]; simp), Int.toNat_natCast]
  by_cases hl : m.lost.getD j false = true
  · rw [if_pos hl, hl]
  · rw [if_neg hl]; simpa using hl
theorem rest_of_unlost {m : DM} {a n : Nat} (hs : a + n ≤ m.size) (h : m.lostB (a : Int) n = false) : m.restR (a : Int) n = m.restL (a : Int) n := by
  refine catS_congr fun s h1 h2 => ?_
  obtain ⟨j, rfl⟩ := Int.eq_ofNat_of_zero_le (show 0 ≤ s by omega)
  have hj : j < m.size := by omega
  have hl : (m.at_ (j : Int)).2.1 = false := by
    cases hh : (m.at_ (j : Int)).2.1 with
    | false => rfl
    | true => rw [show m.lostB (a : Int) n = true from anyIn_iff.2 ⟨_, hh, h1, h2⟩] at h; cases h
  rw [at_lostE hj] at hl
  have hh : m.has (j : Int) = true := DM.has_iff.2 ⟨by omega, by omega⟩
  show m.rest.getD (j : Int).toNat [] = (m.at_ (j : Int)).1
  unfold DM.at_
  rw [if_neg (by rw [hh]; simp), Int.toNat_natCast, if_neg (by rw [hl]; simp)]
set_option maxRecDepth 100000 in
set_option maxHeartbeats 1600000 in
theorem rplace_yes {w : World} {d : Nat} {p : Nat → Nat} {m : DM} (h : RD w d p m) (hs : m.size = 156) (r g pl : Int) (hE : placeG 156 r g pl = 0) :
    Calls Tryz.prog 14 #[.pointer (some ⟨d, 0, none⟩), .int .i64 r, .int .i64 g, .int .i64 pl] w fun e w' => e = .returned (.tuple #[.bool (anyIn m.hurt (firstS g pl) (wid g)), .bool (anyIn m.hurt (firstS g pl) (wid g) && m.badB r g pl), .int .i64 0]) ∧ Ext w w' := by
  obtain ⟨i0, hi, hz0, hz1, hz2⟩ := info_parts byte_info
  have ha := rasked_of h hs r g pl
  rw [hE, decide_eq_true rfl] at ha
  have hf := (placeG_ok hE).2
  have hp := first_wid (by
    by_cases hh : 0 ≤ pl ∧ pl < plc g
    · exact hh
    · rw [firstS_no hh] at hf; omega)
  have hw2 := wid_le g
  have H := Lib.hid h
  have HA := Lib.hid ha
  have HSZ := Lib.hid hs
  obtain ⟨S, hS⟩ : ∃ S : Nat, firstS g pl = (S : Int) := ⟨(firstS g pl).toNat, by omega⟩
  obtain ⟨W, hW⟩ : ∃ W, wid g = W := ⟨_, rfl⟩
  have HB : Hid (m.badB r g pl = (m.lostB S W || decide (stM (m.restL S W) r g pl = 2))) := Lib.hid (by unfold DM.badB; rw [hS, hW])
  have HS := Lib.hid hS
  have HW := Lib.hid hW
  rw [hS, hW] at hp
  rw [hW] at hw2
  rw [hS, hW, HB.out]
  have hp := hp.2
  clear h hs ha hE hf hS hW HB
  go_enter Tryz.func14, Tryz.ntmps14
  go_wp2_with fail
  refine HA.out.mono ?_
  rintro e w1 ⟨rfl, hx⟩
  have HG := Lib.hid ((Gath.start w).more hx)
  clear hx
  go_wp2_with fail
  refine (rfirst_any g pl _).mono ?_
  rw [HS.out]
  rintro e w2 ⟨rfl, rfl⟩
  go_wp2_with fail
  go_loopw [12, 13, 14, 15] (fun a b c i wr => ∃ k : Nat, k ≤ W ∧ i = .int .i64 k ∧ a = .bool (anyIn m.hurt S k) ∧ b = .bool (m.lostB S k) ∧ Hid (Gath w wr c (m.restR S k) k)) (fun _ _ _ i _ => W - (intOf i).toNat)
  case atStart => exact ⟨0, Nat.zero_le _, rfl, rfl, rfl, HG⟩
  case round =>
    obtain ⟨k, hk, rfl, rfl, rfl, HG⟩ := hrel
    obtain ⟨A, c, rfl, hby⟩ := HG.out.form
    clear hby
    by_cases hlt : k < W
    · obtain ⟨J, hJ⟩ : ∃ J, S + k = J := ⟨_, rfl⟩
      have hJ2 : ((S : Int) + (k : Int)) = (J : Int) := by omega
      have hj : J < m.size := by rw [HSZ.out]; omega
      have hm : m.restR S (k + 1) = m.restR S k ++ m.rest.getD J [] := by
        show m.restR S k ++ m.rest.getD ((S : Int) + (k : Int)).toNat [] = _
        rw [hJ2, Int.toNat_natCast]
      have hany := anyIn_succ m.hurt S k
      have hlo : m.lostB S (k + 1) = (m.lostB S k || m.lost.getD J false) := by
        have := anyIn_succ (fun s => (m.at_ s).2.1) S k
        unfold DM.lostB
        rw [this, ← at_lostE hj, hJ2]
      have hhu := fun V (hV : Ext w V) => rhurt_of (H.out.ext hV) J hj
      have hpt := fun V (hV : Ext w V) => rd_parts (H.out.ext hV) hj
      obtain ⟨a0, ha0⟩ : ∃ a0, anyIn m.hurt S k = a0 := ⟨_, rfl⟩
      obtain ⟨l0, hl0⟩ : ∃ l0, m.lostB S k = l0 := ⟨_, rfl⟩
      obtain ⟨h1, hh1⟩ : ∃ h1, m.hurt (J : Int) = h1 := ⟨_, rfl⟩
      rw [hJ2, ha0, hh1] at hany
      rw [hl0] at hlo
      rw [hh1] at hhu
      rw [ha0, hl0]
      have HM := Lib.hid hm
      have HAN := Lib.hid hany
      have HLO := Lib.hid hlo
      have HHU := Lib.hid hhu
      have HPT := Lib.hid hpt
      have hfew := HG.out.few
      have hj156 : J < 156 := by omega
      have hq : IntKind.i64.wrap ((S : Int) + (k : Int)) = (J : Int) := by rw [IntWalk.i64_in _ (by omega)]; exact hJ2
      clear hm hany hlo hhu hpt ha0 hl0 hh1 hj hJ2
      have HJ := Lib.hid hJ
      clear hJ
      generalize m.restR S k = L at *
      cases a0 with
      | true =>
        go_wp2_with fail
        refine (rwide_any g _).mono ?_
        rw [HW.out]
        rintro e w3 ⟨rfl, rfl⟩
        obtain ⟨gr, cr, gm, cm, gl, cl, B, nb, B2, nb2, ⟨d0, d1, d2⟩, ⟨q0, q1, q2⟩, hb, _, hs1, _⟩ := HPT.out _ HG.out.ext
        rw [HSZ.out] at d0 d1 d2
        have HBB := Lib.hid hb
        have HS1 := Lib.hid hs1
        have hl64 : (m.rest.getD J []).length = 64 := hs1.1
        generalize m.rest.getD J [] = R at *
        generalize m.lost.getD J false = lo at *
        clear hb hs1
        cases l0 with
        | true =>
          go_wp2_with (at_builtin; refine wpList_append_by rfl _ _ 34 rfl w.heap.size 5 i0 Tryz.underlying34 hi hz0 hz1 hz2 _ L.length (vb L) rfl HG.out.own (some ⟨B, 0, none⟩) 64 nb R rfl HBB.out (by omega) HG.out.ext.size ?_)
          rintro v' w5 hown hgrow
          have HG := Lib.hid (HG.out.app hgrow (by rw [hl64]; exact hown) HS1.out.2 (by omega))
          clear hown hgrow d0 d1 d2 q0 q1 q2
          go_wp2_with fail
          go_roundw
          case rel => exact ⟨k + 1, by omega, by go_num, by rw [HAN.out]; rfl, by rw [HLO.out]; rfl, by rw [HM.out]; exact HG⟩
          case measure => simp [intOf]; omega
        | false =>
          go_wp2_with (at_builtin; refine wpList_append_by rfl _ _ 34 rfl w.heap.size 5 i0 Tryz.underlying34 hi hz0 hz1 hz2 _ L.length (vb L) rfl HG.out.own (some ⟨B, 0, none⟩) 64 nb R rfl HBB.out (by omega) HG.out.ext.size ?_)
          rintro v' w5 hown hgrow
          have HG := Lib.hid (HG.out.app hgrow (by rw [hl64]; exact hown) HS1.out.2 (by omega))
          clear hown hgrow d0 d1 d2 q0 q1 q2
          go_wp2_with fail
          go_roundw
          case rel => exact ⟨k + 1, by omega, by go_num, by rw [HAN.out]; rfl, by rw [HLO.out]; rfl, by rw [HM.out]; exact HG⟩
          case measure => simp [intOf]; omega
      | false =>
        go_wp2_with fail
        refine (rwide_any g _).mono ?_
        rw [HW.out]
        rintro e w3 ⟨rfl, rfl⟩
        go_wp2_with fail
        refine (HHU.out _ HG.out.ext).mono ?_
        rintro e w4 ⟨rfl, hx⟩
        have HG := Lib.hid (HG.out.more hx)
        clear hx
        obtain ⟨gr, cr, gm, cm, gl, cl, B, nb, B2, nb2, ⟨d0, d1, d2⟩, ⟨q0, q1, q2⟩, hb, _, hs1, _⟩ := HPT.out _ HG.out.ext
        rw [HSZ.out] at d0 d1 d2
        have HBB := Lib.hid hb
        have HS1 := Lib.hid hs1
        have hl64 : (m.rest.getD J []).length = 64 := hs1.1
        generalize m.rest.getD J [] = R at *
        generalize m.lost.getD J false = lo at *
        clear hb hs1
        cases l0 with
        | true =>
          go_wp2_with (at_builtin; refine wpList_append_by rfl _ _ 34 rfl w.heap.size 5 i0 Tryz.underlying34 hi hz0 hz1 hz2 _ L.length (vb L) rfl HG.out.own (some ⟨B, 0, none⟩) 64 nb R rfl HBB.out (by omega) HG.out.ext.size ?_)
          rintro v' w5 hown hgrow
          have HG := Lib.hid (HG.out.app hgrow (by rw [hl64]; exact hown) HS1.out.2 (by omega))
          clear hown hgrow d0 d1 d2 q0 q1 q2
          go_wp2_with fail
          go_roundw
          case rel => exact ⟨k + 1, by omega, by go_num, by rw [HAN.out]; rfl, by rw [HLO.out]; rfl, by rw [HM.out]; exact HG⟩
          case measure => simp [intOf]; omega
        | false =>
          go_wp2_with (at_builtin; refine wpList_append_by rfl _ _ 34 rfl w.heap.size 5 i0 Tryz.underlying34 hi hz0 hz1 hz2 _ L.length (vb L) rfl HG.out.own (some ⟨B, 0, none⟩) 64 nb R rfl HBB.out (by omega) HG.out.ext.size ?_)
          rintro v' w5 hown hgrow
          have HG := Lib.hid (HG.out.app hgrow (by rw [hl64]; exact hown) HS1.out.2 (by omega))
          clear hown hgrow d0 d1 d2 q0 q1 q2
          go_wp2_with fail
          go_roundw
          case rel => exact ⟨k + 1, by omega, by go_num, by rw [HAN.out]; rfl, by rw [HLO.out]; rfl, by rw [HM.out]; exact HG⟩
          case measure => simp [intOf]; omega
    · obtain rfl : k = W := by omega
      have hrl : m.lostB S k = false → m.restR S k = m.restL S k := fun hl => rest_of_unlost (by rw [HSZ.out]; omega) hl
      have HRL := Lib.hid hrl
      clear hrl
      obtain ⟨a0, ha0⟩ : ∃ a0, anyIn m.hurt S k = a0 := ⟨_, rfl⟩
      obtain ⟨l0, hl0⟩ : ∃ l0, m.lostB S k = l0 := ⟨_, rfl⟩
      rw [hl0] at HRL
      have HA0 := Lib.hid ha0
      have HL0 := Lib.hid hl0
      rw [ha0, hl0]
      clear ha0 hl0
      go_wp2_with fail
      refine (rwide_any g _).mono ?_
      rw [HW.out]
      rintro e w3 ⟨rfl, rfl⟩
      go_wp2_with fail
      obtain ⟨A', c', e, hby⟩ := HG.out.form
      injection e with e1 _ e3
      subst e1; subst e3
      refine (rmine_any A _ c (m.restR S k) r g pl _ hby).mono ?_
      rintro e w4 ⟨A4, N4, c4, rfl, _, _, hx⟩
      have HX := Lib.hid (HG.out.ext.trans hx)
      clear hby hx
      cases a0 with
      | false =>
        go_wp2_with fail
        go_ret3
        rw [HA0.out]
        exact ⟨rfl, HX.out.alloc _⟩
      | true =>
        cases l0 with
        | true =>
          go_wp2_with fail
          go_ret3
          rw [HA0.out, HL0.out]
          exact ⟨rfl, HX.out.alloc _⟩
        | false =>
          have HR2 := Lib.hid (HRL.out rfl)
          rw [HR2.out]
          obtain ⟨st, hst0⟩ : ∃ st, stM (m.restL S k) r g pl = st := ⟨_, rfl⟩
          have HST := Lib.hid hst0
          rw [hst0]
          clear hst0
          by_cases hst : st = 2
          · subst hst
            go_wp2_with fail
            go_ret3
            rw [HA0.out, HL0.out, HST.out]
            exact ⟨rfl, HX.out.alloc _⟩
          · have hne : ((st : Int) == 2) = false := by simp; omega
            have HD := Lib.hid (decide_eq_false hst)
            clear hst
            go_wp2_with fail
            go_ret3
            rw [HA0.out, HL0.out, HST.out, HD.out]
            exact ⟨rfl, HX.out.alloc _⟩
theorem rplace_no {w : World} {d : Nat} {p : Nat → Nat} {m : DM} (h : RD w d p m) (hs : m.size = 156) (r g pl : Int) (hE : placeG 156 r g pl ≠ 0) :
    Calls Tryz.prog 14 #[.pointer (some ⟨d, 0, none⟩), .int .i64 r, .int .i64 g, .int .i64 pl] w fun e w' => e = .returned (.tuple #[.bool false, .bool false, .int .i64 2]) ∧ Ext w w' := by
  have ha := rasked_of h hs r g pl
  rw [decide_eq_false hE] at ha
  have HA := Lib.hid ha
  clear h hs hE ha
  go_enter Tryz.func14, Tryz.ntmps14
  go_wp2_with fail
  refine HA.out.mono ?_
  rintro e w1 ⟨rfl, hx⟩
  have HX := Lib.hid hx
  clear hx
  go_wp2_with fail
  go_ret3
  exact ⟨rfl, HX.out⟩
end Go.Proofs.YtlikhmhomkiadaaGreatDoor

namespace Go.Proofs.YtlikhmhomkiadaaGreatDoor
set_option maxRecDepth 100000
open Go Go.RowKit

/-- The tag that a frame's Mine tells, as a value. -/
def tagV (l : List Nat) (r g p : Int) : Value := .agg #[.int .i64 (mfl l r g p 0), .int .i64 (mfl l r g p 1), .int .i64 (mfl l r g p 2), .int .i64 (mfl l r g p 3), .int .i64 (mfl l r g p 4)]

set_option maxHeartbeats 1600000 in
theorem honest_err {w : World} {q : Option Addr} {sz : Nat} (hS : Sized w q sz) (hL : LaidT w) (r g p : Int) (hE : placeG sz r g p ≠ 0) :
    Calls Tryz.prog 17 #[.pointer q, .int .i64 r, .int .i64 g, .int .i64 p] w fun e w' => e = .returned (.tuple #[.int .u8 0, .agg #[.int .i64 0, .int .i64 0, .int .i64 0, .int .i64 0, .int .i64 0], .slice none 0 0, .int .i64 (placeG sz r g p)]) ∧ Ext w w' := by
  have hE0 : Ext w (w.alloc (.cells #[.int .i64 0, .int .i64 0, .int .i64 0, .int .i64 0, .int .i64 0] 33)) := (Ext.refl w).alloc _
  have hk := gplace_of (hS.ext hE0) (hL.ext hE0) r g p
  obtain ⟨E, hEE⟩ : ∃ E, placeG sz r g p = E := ⟨_, rfl⟩
  rw [hEE] at hk hE ⊢
  have HK := Lib.hid hk
  have HE := Lib.hid hE0
  have hne : (E != 0) = true := by simpa using hE
  have HZ := Lib.hid (heap_alloc_new w (.cells #[.int .i64 0, .int .i64 0, .int .i64 0, .int .i64 0, .int .i64 0] 33))
  clear hS hL hk hE hEE hE0
  go_enter Tryz.func17, Tryz.ntmps17
  go_wp2_with fail
  refine HK.out.mono ?_
  rintro e w1 ⟨rfl, hx⟩
  have hz1 := (hx.block _ (Array.getElem?_eq_some_iff.1 HZ.out).1).trans HZ.out
  have HE := Lib.hid (HE.out.trans hx)
  have HZ := Lib.hid hz1
  obtain ⟨⟨c0, c1, c2, c3, c4⟩, f0, f1, f2, f3, f4⟩ := five_cells hz1
  clear hx hz1
  go_wp2_with fail
  have hz3 := five_row HZ.out (.int .i64 0) (.int .i64 0) (.int .i64 0) (.int .i64 0) (.int .i64 0)
  have hx3 := five_ext HE.out (Nat.le_refl _) (.int .i64 0) (.int .i64 0) (.int .i64 0) (.int .i64 0) (.int .i64 0)
  generalize (((((w1.setCell ⟨w.heap.size, 0, none⟩ (.int .i64 0)).setCell ⟨w.heap.size, 1, none⟩ (.int .i64 0)).setCell ⟨w.heap.size, 2, none⟩ (.int .i64 0)).setCell ⟨w.heap.size, 3, none⟩ (.int .i64 0)).setCell ⟨w.heap.size, 4, none⟩ (.int .i64 0)) = V at hz3 hx3 ⊢
  obtain ⟨⟨e0, e1, e2, e3, e4⟩, _⟩ := five_cells hz3
  refine bodyPost_ret (v := .tuple #[.int .u8 0, .agg #[.int .i64 0, .int .i64 0, .int .i64 0, .int .i64 0, .int .i64 0], .slice none 0 0, .int .i64 E]) ?_ rfl ?_
  · simp [results, Tryz.results17, go_sem, e0, e1, e2, e3, e4]
  · exact ⟨rfl, hx3⟩

set_option maxRecDepth 100000 in
set_option maxHeartbeats 3200000 in
theorem honest_yes {w : World} {d : Nat} {F : Nat → Prop} {m : DM} (h : PDisk w d F m) (hL : LaidF w) (r g p : Int) (hE : placeG m.size r g p = 0) :
    Calls Tryz.prog 17 #[.pointer (some ⟨d, 0, none⟩), .int .i64 r, .int .i64 g, .int .i64 p] w fun e w' => ∃ A' N, e = .returned (.tuple #[.int .u8 (stM (m.meantL (firstS g p) (wid g)) r g p), tagV (m.meantL (firstS g p) (wid g)) r g p, .slice A' N N, .int .i64 0]) ∧ By w' A' N N (mbl (m.meantL (firstS g p) (wid g)) r g p) ∧ Ext w w' := by
  have hE0 : Ext w (w.alloc (.cells #[.int .i64 0, .int .i64 0, .int .i64 0, .int .i64 0, .int .i64 0] 33)) := (Ext.refl w).alloc _
  have hk := gplace_of (Sized.of (h.ext hE0)) (hL.ext hE0).a.t r g p
  rw [hE] at hk
  have hf0 := (placeG_ok hE).2
  have hmb : ∀ V, Ext w V → Calls Tryz.prog 61 #[.pointer (some ⟨d, 0, none⟩), .int .i64 g, .int .i64 p] V fun e w' => ∃ A c, e = .returned (.slice A (m.meantL (firstS g p) (wid g)).length c) ∧ By w' A (m.meantL (firstS g p) (wid g)).length c (m.meantL (firstS g p) (wid g)) ∧ Ext V w' := fun V hx => meantBytes_of (h.ext hx) (hL.ext hx).a.t g p hf0
  generalize m.meantL (firstS g p) (wid g) = L at *
  unfold tagV
  have hmi := fun (A1 : Option Addr) (c1 : Nat) (V : World) (hx : Ext w V) (hb : By V A1 L.length c1 L) => mine_own A1 _ c1 L r g p V (hL.ext hx) hb
  generalize stM L r g p = st at *
  generalize mbl L r g p = bl at *
  generalize (mfl L r g p 0) = t0 at *
  generalize (mfl L r g p 1) = t1 at *
  generalize (mfl L r g p 2) = t2 at *
  generalize (mfl L r g p 3) = t3 at *
  generalize (mfl L r g p 4) = t4 at *
  have HMI := Lib.hid hmi
  have HK := Lib.hid hk
  have HE := Lib.hid hE0
  have HL := Lib.hid hL
  have HMB := Lib.hid hmb
  have HZ := Lib.hid (heap_alloc_new w (.cells #[.int .i64 0, .int .i64 0, .int .i64 0, .int .i64 0, .int .i64 0] 33))
  clear h hL hk hE hE0 hf0 hmb hmi
  go_enter Tryz.func17, Tryz.ntmps17
  go_wp2_with fail
  refine HK.out.mono ?_
  rintro e w1 ⟨rfl, hx⟩
  have HZ := Lib.hid ((hx.block _ (Array.getElem?_eq_some_iff.1 HZ.out).1).trans HZ.out)
  have HE := Lib.hid (HE.out.trans hx)
  clear hx
  go_wp2_with fail
  refine (HMB.out _ HE.out).mono ?_
  rintro e w2 ⟨A1, c1, rfl, hb, hx⟩
  have HZ := Lib.hid ((hx.block _ (Array.getElem?_eq_some_iff.1 HZ.out).1).trans HZ.out)
  have HE := Lib.hid (HE.out.trans hx)
  have HB := Lib.hid hb
  clear hx hb
  go_wp2_with fail
  refine (HMI.out A1 c1 _ HE.out HB.out).mono ?_
  rintro e w3 ⟨A2, N, rfl, hb2, hge, hx⟩
  have hz3 := (hx.block _ (Array.getElem?_eq_some_iff.1 HZ.out).1).trans HZ.out
  have hlt : w.heap.size < w2.heap.size := (Array.getElem?_eq_some_iff.1 HZ.out).1
  have HZ := Lib.hid hz3
  have HE := Lib.hid (HE.out.trans hx)
  have HB2 := Lib.hid hb2
  have HNE : Hid (∀ gg o, A2 = some ⟨gg, o, none⟩ → 0 < N → w.heap.size ≠ gg) := Lib.hid fun gg o hA hN e => by
    have := hge gg o hA hN
    omega
  obtain ⟨⟨c0, c1, c2, c3, c4⟩, f0, f1, f2, f3, f4⟩ := five_cells hz3
  clear hx hz3 hb2 hge HMB HK HMI
  go_wp2_with fail
  have hrow := five_row HZ.out (.int .i64 t0) (.int .i64 t1) (.int .i64 t2) (.int .i64 t3) (.int .i64 t4)
  have hx := five_ext HE.out (Nat.le_refl _) (.int .i64 t0) (.int .i64 t1) (.int .i64 t2) (.int .i64 t3) (.int .i64 t4)
  have hby := HB2.out.five HNE.out (.int .i64 t0) (.int .i64 t1) (.int .i64 t2) (.int .i64 t3) (.int .i64 t4)
  clear c0 c1 c2 c3 c4 f0 f1 f2 f3 f4
  generalize (((((w3.setCell ⟨w.heap.size, 0, none⟩ (.int .i64 t0)).setCell ⟨w.heap.size, 1, none⟩ (.int .i64 t1)).setCell ⟨w.heap.size, 2, none⟩ (.int .i64 t2)).setCell ⟨w.heap.size, 3, none⟩ (.int .i64 t3)).setCell ⟨w.heap.size, 4, none⟩ (.int .i64 t4)) = W at *
  generalize hh0 : w.heap.size = h0 at *
  obtain ⟨⟨d0, d1, d2, d3, d4⟩, f0, f1, f2, f3, f4⟩ := five_cells hrow
  have HZ := Lib.hid hrow
  have HE := Lib.hid hx
  have HB2 := Lib.hid hby
  have HN0 := Lib.hid hh0
  clear hh0 hrow hx hby
  go_region_held3 (fun w' => w'.cell? ⟨h0, 0, none⟩ = some (.int .i64 t0) ∧ w'.cell? ⟨h0, 1, none⟩ = some (.int .i64 t1) ∧ w'.cell? ⟨h0, 2, none⟩ = some (.int .i64 t2) ∧ w'.cell? ⟨h0, 3, none⟩ = some (.int .i64 t3) ∧ w'.cell? ⟨h0, 4, none⟩ = some (.int .i64 t4))
    (first | with_reducible exact ⟨d0, d1, d2, d3, d4⟩ | with_reducible exact five_near_drew HZ.out _ _ _ _ _ | go_keep)
    (first | (go_at_call 0; fail))
  have hrow := five_row HZ.out (.int .i64 t0) (.int .i64 t1) (.int .i64 t2) (.int .i64 t3) (.int .i64 t4)
  have hx := five_ext HE.out (g := h0) (Nat.le_of_eq HN0.out) (.int .i64 t0) (.int .i64 t1) (.int .i64 t2) (.int .i64 t3) (.int .i64 t4)
  have hby := HB2.out.five HNE.out (.int .i64 t0) (.int .i64 t1) (.int .i64 t2) (.int .i64 t3) (.int .i64 t4)
  clear d0 d1 d2 d3 d4 f0 f1 f2 f3 f4
  generalize (((((W.setCell ⟨h0, 0, none⟩ (.int .i64 t0)).setCell ⟨h0, 1, none⟩ (.int .i64 t1)).setCell ⟨h0, 2, none⟩ (.int .i64 t2)).setCell ⟨h0, 3, none⟩ (.int .i64 t3)).setCell ⟨h0, 4, none⟩ (.int .i64 t4)) = V at hrow hx hby ⊢
  obtain ⟨⟨e0, e1, e2, e3, e4⟩, _⟩ := five_cells hrow
  have HB2 := Lib.hid (hby.ext ((Ext.refl V).drew))
  have HX := Lib.hid hx.drew
  clear hrow hx hby
  go_wp2_with fail
  refine bodyPost_ret (v := .tuple #[.int .u8 st, .agg #[.int .i64 t0, .int .i64 t1, .int .i64 t2, .int .i64 t3, .int .i64 t4], .slice A2 N N, .int .i64 0]) ?_ rfl ?_
  · simp [results, Tryz.results17, go_sem, e0, e1, e2, e3, e4]
  · exact ⟨A2, N, rfl, HB2.out, HX.out⟩
end Go.Proofs.YtlikhmhomkiadaaGreatDoor
