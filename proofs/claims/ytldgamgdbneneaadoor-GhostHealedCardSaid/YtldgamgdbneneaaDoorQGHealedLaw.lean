/-
  GhostHealed: a place, hurt or not, that is written anew and flushed is not hurt, and holds that.
-/
import Derived.Test.YtldgamgdbneneaaDoorQ04
import Derived.Test.YtldgamgdbneneaaDoorQ11
import Derived.Test.YtldgamgdbneneaaDoorQ25
import Derived.Test.YtldgamgdbneneaaDoorQ29
namespace Go.Proofs.YtldgamgdbneneaaDoor
open Go Go.RowKit Go.Shelf

theorem upto_den (m : DM) : (if m.up = true then m else (m.crash []).2) = m.downed := rfl
set_option maxRecDepth 100000 in
set_option maxHeartbeats 2400000 in
theorem ghostHealed_law (A : Option Addr) (n c : Nat) (l : List Act6) (ta tb tc td te : Int) (A2 : Option Addr) (n2 c2 : Nat) (body : List Nat) (w : World) (ha : Acts6 w w.heap.size A n c l) (hb : Bs w w.heap.size A2 n2 c2 body) (hL : LaidF w) :
    Calls Tryd.prog 6 #[.slice A n c, .agg #[.int .i64 ta, .int .i64 tb, .int .i64 tc, .int .i64 td, .int .i64 te], .slice A2 n2 c2] w fun e w' => e = .returned (.bool true) ∧ Ext w w' := by
  have hE := (Ext.refl w).alloc (.cells #[.int .i64 ta, .int .i64 tb, .int .i64 tc, .int .i64 td, .int .i64 te] 37)
  have hT := heap_alloc_new w (.cells #[.int .i64 ta, .int .i64 tb, .int .i64 tc, .int .i64 td, .int .i64 te] 37)
  obtain ⟨W0, hW0⟩ : ∃ W0, w.alloc (.cells #[.int .i64 ta, .int .i64 tb, .int .i64 tc, .int .i64 td, .int .i64 te] 37) = W0 := ⟨_, rfl⟩
  rw [hW0] at hE hT
  have HE0 := Lib.hid hE
  have HT0 := Lib.hid hT
  have HA : Hid (Acts6 W0 W0.heap.size A n c l) := Lib.hid ((ha.below hE).more hE.size)
  have HB : Hid (Bs W0 W0.heap.size A2 n2 c2 body) := Lib.hid ((hb.below hE).more hE.size)
  have HL : Hid (LaidF W0) := Lib.hid (hL.ext hE)
  have HBN : Hid (body.length = n2) := Lib.hid hb.len
  have hn : 0 ≤ n := Nat.zero_le _
  have hn2 : 0 ≤ n2 := Nat.zero_le _
  clear ha hb hL hE hT
  go_enter Tryd.func6, Tryd.ntmps6
  go_wp2_with fail
  refine (gawake_any W0 HL.out).mono ?_
  rintro e w1 ⟨rfl, hx⟩
  have HE := Lib.hid hx
  clear hx
  go_wp2_with fail
  refine (great6_of HE.out.size A n c l (HA.out.below HE.out)).mono ?_
  rintro e w1' ⟨b, rfl, hx, hg⟩
  have HE := Lib.hid (HE.out.trans hx)
  clear hx
  cases b with
  | true =>
    go_wp2_with fail
    go_ret
    exact ⟨rfl, HE0.out.trans HE.out⟩
  | false =>
    obtain ⟨hn60, hall⟩ := hg rfl
    have HALL := Lib.hid hall
    clear hg hall
    by_cases hn43 : 43 < n2
    · go_wp2_with fail
      go_ret
      exact ⟨rfl, HE0.out.trans HE.out⟩
    obtain ⟨⟨i0, i1, i2, i3, i4⟩, _⟩ := five_cells ((HE.out.block _ (Array.getElem?_eq_some_iff.1 HT0.out).1).trans HT0.out)
    go_wp2_with fail
    refine (may_any _ _ _ _ _ _ (HL.out.ext HE.out).a.t).mono ?_
    by_cases hm : mayB ta tb tc td te = true
    · rw [hm]
      rintro e w1'' ⟨rfl, hx⟩
      have HE := Lib.hid (HE.out.trans hx)
      have HM := Lib.hid hm
      clear hx hm i0 i1 i2 i3 i4
      obtain ⟨hsE, hsl, hw1, hs0, hs1⟩ := may_all HM.out (show n2 ≤ 43 by omega) HBN.out
      obtain ⟨m1, m2, m3, _⟩ := seal_mine hsE
      have HMINE := Lib.hid (And.intro m1 (And.intro m2 m3))
      have HPL := Lib.hid (may_place HM.out)
      have HWD := Lib.hid (And.intro hsl (And.intro hw1 (And.intro hs0 hs1)))
      have HSLT : Hid (∀ x ∈ sealL ta tb tc td te body (wid tb : Nat), x < 256) := Lib.hid (sealL_lt HB.out.rd.lt)
      clear hsE hsl hw1 hs0 hs1 m1 m2 m3
      go_wp2_with fail
      refine (gnew_156 _).mono ?_
      rintro e w2 ⟨d, rfl, hp, hx⟩
      have HD : Hid (DK W0 w2 d _ (DM.new 156)) := Lib.hid ⟨hp, fun k hk => Nat.le_trans HE.out.size hk.1, HE.out.trans hx⟩
      clear hp hx
      go_wp2_with fail
      go_loopw [9] (fun i wr => ∃ (k : Nat) (F : Nat → Prop) (m : DM), k ≤ n ∧ i = .int .i64 k ∧ Hid (DK W0 wr d F m) ∧ Hid (m.Ok ∧ m.size = 156 ∧ m.waits.length ≤ 2 * k)) (fun i _ => n - (intOf i).toNat)
      case atStart => exact ⟨0, _, _, Nat.zero_le _, rfl, HD, Lib.hid ⟨DM.new_ok 156, by simp [DM.new, DM.size], by simp [DM.new]⟩⟩
      case round =>
        obtain ⟨k, F, m, hkn, rfl, HD, HM2⟩ := hrel
        by_cases hlt : k < n
        · obtain ⟨g, o, x, rfl, hg, hx, hok, hc⟩ := HA.out.at_ hlt
          obtain ⟨h0, h1, h2, h3, h4, h5, h6, h7, h8, h9, h10, h11⟩ := hc.below HD.out.bel hg
          have hmem := HALL.out x (List.mem_of_getElem? hx)
          have hdo := do6_dk HD.out HL.out.a.t x hok hmem.2.1 (by have := HM2.out.2.2; omega)
          have HN : Hid ((m.act6 x).Ok ∧ (m.act6 x).size = 156 ∧ (m.act6 x).waits.length ≤ 2 * (k + 1)) := Lib.hid ⟨act6_ok HM2.out.1 hok.body.rd.lt hok.act.bytes.rd.lt, (act6_size m x).trans HM2.out.2.1, by
            have := act6_waits m x
            have := HM2.out.2.2
            omega⟩
          have HDO := Lib.hid hdo
          clear hx hok hc hmem hdo
          go_wp2_with fail
          refine HDO.out.mono ?_
          rintro e w4 ⟨⟨v, rfl⟩, F', hD'⟩
          have HD' := Lib.hid hD'
          clear hD'
          go_wp2_with fail
          go_roundw
          case rel => exact ⟨k + 1, _, _, by omega, by go_num, HD', HN⟩
          case measure => simp [intOf]; omega
        · have hready := heal_ready HM2.out.1 HM2.out.2.1 (N := 120) (by have := HM2.out.2.2; omega)
          have HRD := Lib.hid hready
          have hupq := up_pd HD.out.disk
          obtain ⟨u, hu⟩ : ∃ u, m.up = u := ⟨_, rfl⟩
          rw [hu] at hupq
          have HUP := Lib.hid hupq
          have HDN : Hid (m.downed = if u = true then m else (m.crash []).2) := Lib.hid (by rw [← upto_den, hu])
          clear hready hupq hu
          cases u with
          | true =>
            have HDN : Hid (m.downed = m) := HDN
            go_wp2_with fail
            refine HUP.out.mono ?_
            rintro e wu ⟨rfl, rfl⟩
            have HD2 := Lib.hid HD.out
            go_wp2_with fail
            refine (start_pd HD2.out.disk).mono ?_
            unfold Outc
            rintro e ws ⟨rfl, hp, hmm⟩
            have HD3 := Lib.hid (HD2.out.step hp hmm)
            clear hp hmm
            go_wp2_with fail
            refine (power_pd HD3.out.disk 1000 (by omega)).mono ?_
            unfold Outc
            rintro e wp ⟨rfl, hp, hmm⟩
            have HD4 : Hid (DK W0 wp d _ m.downed.raised) := Lib.hid (by rw [HDN.out]; exact HD3.out.step hp hmm)
            clear hp hmm
            obtain ⟨⟨i0, i1, i2, i3, i4⟩, _⟩ := five_cells ((HD4.out.bel.block _ (Array.getElem?_eq_some_iff.1 HT0.out).1).trans HT0.out)
            have HPUT := Lib.hid (put_of HD4.out HL.out ta tb tc td te A2 n2 c2 body HB.out HM.out (by omega) HRD.out.2.1 (by have := HRD.out.2.2; omega))
            have HPP := Lib.hid (put_put HRD.out.1 (HRD.out.2.1.less (show 1 + wid tb ≤ 3 by have := wid_le tb; omega)) HWD.out.2.2.1 HWD.out.2.2.2 HWD.out.1 HSLT.out)
            go_wp2_with fail
            refine HPUT.out.mono ?_
            rintro e w5 ⟨rfl, F5, hd5⟩
            have HD5 := Lib.hid hd5
            clear hd5 i0 i1 i2 i3 i4
            obtain ⟨⟨i0, i1, i2, i3, i4⟩, _⟩ := five_cells ((HD5.out.bel.block _ (Array.getElem?_eq_some_iff.1 HT0.out).1).trans HT0.out)
            have hpl := place_yes HD5.out.disk (HL.out.ext HD5.out.bel) ta tb tc (by rw [HPP.out.size]; exact HPL.out)
            rw [HPP.out.unhurt] at hpl
            have HPLC := Lib.hid hpl
            clear hpl
            go_wp2_with fail
            refine HPLC.out.mono ?_
            rintro e w6 ⟨rfl, hx⟩
            have HD6 := Lib.hid (HD5.out.ext hx)
            clear hx i0 i1 i2 i3 i4
            obtain ⟨⟨i0, i1, i2, i3, i4⟩, _⟩ := five_cells ((HD6.out.bel.block _ (Array.getElem?_eq_some_iff.1 HT0.out).1).trans HT0.out)
            have hho := honest_yes HD6.out.disk (HL.out.ext HD6.out.bel) ta tb tc (by rw [HPP.out.size]; exact HPL.out)
            rw [HPP.out.meantL HWD.out.1, HMINE.out.1, HMINE.out.2.1, HMINE.out.2.2] at hho
            have HHO := Lib.hid hho
            clear hho
            go_wp2_with fail
            refine HHO.out.mono ?_
            rintro e w7 ⟨A7, N7, rfl, hb7, hx⟩
            obtain rfl : N7 = n2 := by rw [← HBN.out]; exact hb7.len.symm
            have hr := heap_alloc_new w7 (.cells #[.int .i64 ta, .int .i64 tb, .int .i64 tc, .int .i64 td, .int .i64 te] 37)
            have HD7 := Lib.hid ((HD6.out.ext hx).ext ((Ext.refl w7).alloc (.cells #[.int .i64 ta, .int .i64 tb, .int .i64 tc, .int .i64 td, .int .i64 te] 37)))
            have HB7 := Lib.hid (hb7.ext ((Ext.refl w7).alloc (.cells #[.int .i64 ta, .int .i64 tb, .int .i64 tc, .int .i64 td, .int .i64 te] 37)))
            clear hx hb7 i0 i1 i2 i3 i4
            obtain ⟨⟨i0, i1, i2, i3, i4⟩, _⟩ := five_cells ((HD7.out.bel.block _ (Array.getElem?_eq_some_iff.1 HT0.out).1).trans HT0.out)
            obtain ⟨⟨j0, j1, j2, j3, j4⟩, _⟩ := five_cells hr
            have hq := tag_eql ta tb tc td te ta tb tc td te
            clear hr
            go_wp2_with fail
            refine (same_by _ _ body body _ _ _ _ _ HB7.out ((HB.out.below HD7.out.bel).more HD7.out.bel.size)).mono ?_
            rw [decide_eq_true (rfl : body = body)]
            rintro e w8 ⟨rfl, hx⟩
            have HX8 := Lib.hid (HD7.out.bel.trans hx)
            clear hx i0 i1 i2 i3 i4 j0 j1 j2 j3 j4 hq
            go_wp2_with fail
            go_ret
            exact ⟨rfl, HE0.out.trans HX8.out⟩
          | false =>
            have HDN : Hid (m.downed = (m.crash []).2) := HDN
            go_wp2_with fail
            refine HUP.out.mono ?_
            rintro e wu ⟨rfl, rfl⟩
            go_wp2_with fail
            refine (crash_pd HD.out.disk none 0 0 [] ⟨rfl, Nat.le_refl _, by omega, fun h => absurd h (by omega), fun _ => rfl⟩ (fun h => absurd h (by omega))).mono ?_
            unfold Outc
            rintro e wc ⟨rfl, hp, hmm⟩
            have HD2 := Lib.hid (HD.out.step hp hmm)
            clear hp hmm
            go_wp2_with fail
            refine (start_pd HD2.out.disk).mono ?_
            unfold Outc
            rintro e ws ⟨rfl, hp, hmm⟩
            have HD3 := Lib.hid (HD2.out.step hp hmm)
            clear hp hmm
            go_wp2_with fail
            refine (power_pd HD3.out.disk 1000 (by omega)).mono ?_
            unfold Outc
            rintro e wp ⟨rfl, hp, hmm⟩
            have HD4 : Hid (DK W0 wp d _ m.downed.raised) := Lib.hid (by rw [HDN.out]; exact HD3.out.step hp hmm)
            clear hp hmm
            obtain ⟨⟨i0, i1, i2, i3, i4⟩, _⟩ := five_cells ((HD4.out.bel.block _ (Array.getElem?_eq_some_iff.1 HT0.out).1).trans HT0.out)
            have HPUT := Lib.hid (put_of HD4.out HL.out ta tb tc td te A2 n2 c2 body HB.out HM.out (by omega) HRD.out.2.1 (by have := HRD.out.2.2; omega))
            have HPP := Lib.hid (put_put HRD.out.1 (HRD.out.2.1.less (show 1 + wid tb ≤ 3 by have := wid_le tb; omega)) HWD.out.2.2.1 HWD.out.2.2.2 HWD.out.1 HSLT.out)
            go_wp2_with fail
            refine HPUT.out.mono ?_
            rintro e w5 ⟨rfl, F5, hd5⟩
            have HD5 := Lib.hid hd5
            clear hd5 i0 i1 i2 i3 i4
            obtain ⟨⟨i0, i1, i2, i3, i4⟩, _⟩ := five_cells ((HD5.out.bel.block _ (Array.getElem?_eq_some_iff.1 HT0.out).1).trans HT0.out)
            have hpl := place_yes HD5.out.disk (HL.out.ext HD5.out.bel) ta tb tc (by rw [HPP.out.size]; exact HPL.out)
            rw [HPP.out.unhurt] at hpl
            have HPLC := Lib.hid hpl
            clear hpl
            go_wp2_with fail
            refine HPLC.out.mono ?_
            rintro e w6 ⟨rfl, hx⟩
            have HD6 := Lib.hid (HD5.out.ext hx)
            clear hx i0 i1 i2 i3 i4
            obtain ⟨⟨i0, i1, i2, i3, i4⟩, _⟩ := five_cells ((HD6.out.bel.block _ (Array.getElem?_eq_some_iff.1 HT0.out).1).trans HT0.out)
            have hho := honest_yes HD6.out.disk (HL.out.ext HD6.out.bel) ta tb tc (by rw [HPP.out.size]; exact HPL.out)
            rw [HPP.out.meantL HWD.out.1, HMINE.out.1, HMINE.out.2.1, HMINE.out.2.2] at hho
            have HHO := Lib.hid hho
            clear hho
            go_wp2_with fail
            refine HHO.out.mono ?_
            rintro e w7 ⟨A7, N7, rfl, hb7, hx⟩
            obtain rfl : N7 = n2 := by rw [← HBN.out]; exact hb7.len.symm
            have hr := heap_alloc_new w7 (.cells #[.int .i64 ta, .int .i64 tb, .int .i64 tc, .int .i64 td, .int .i64 te] 37)
            have HD7 := Lib.hid ((HD6.out.ext hx).ext ((Ext.refl w7).alloc (.cells #[.int .i64 ta, .int .i64 tb, .int .i64 tc, .int .i64 td, .int .i64 te] 37)))
            have HB7 := Lib.hid (hb7.ext ((Ext.refl w7).alloc (.cells #[.int .i64 ta, .int .i64 tb, .int .i64 tc, .int .i64 td, .int .i64 te] 37)))
            clear hx hb7 i0 i1 i2 i3 i4
            obtain ⟨⟨i0, i1, i2, i3, i4⟩, _⟩ := five_cells ((HD7.out.bel.block _ (Array.getElem?_eq_some_iff.1 HT0.out).1).trans HT0.out)
            obtain ⟨⟨j0, j1, j2, j3, j4⟩, _⟩ := five_cells hr
            have hq := tag_eql ta tb tc td te ta tb tc td te
            clear hr
            go_wp2_with fail
            refine (same_by _ _ body body _ _ _ _ _ HB7.out ((HB.out.below HD7.out.bel).more HD7.out.bel.size)).mono ?_
            rw [decide_eq_true (rfl : body = body)]
            rintro e w8 ⟨rfl, hx⟩
            have HX8 := Lib.hid (HD7.out.bel.trans hx)
            clear hx i0 i1 i2 i3 i4 j0 j1 j2 j3 j4 hq
            go_wp2_with fail
            go_ret
            exact ⟨rfl, HE0.out.trans HX8.out⟩
    · rw [show mayB ta tb tc td te = false by simpa using hm]
      rintro e w1'' ⟨rfl, hx⟩
      have HE := Lib.hid (HE.out.trans hx)
      clear hx hm i0 i1 i2 i3 i4
      go_wp2_with fail
      go_ret
      exact ⟨rfl, HE0.out.trans HE.out⟩
end Go.Proofs.YtldgamgdbneneaaDoor
