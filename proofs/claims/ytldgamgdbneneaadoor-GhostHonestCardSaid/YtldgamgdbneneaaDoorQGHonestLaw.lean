/-
  GhostHonest: of a place that was written, and flushed, ahead of any faults, what it is meant to hold is that; if its bytes are good there, and it isn't hurt, they are that; what is seen is hurt.
-/
import Derived.Test.YtldgamgdbneneaaDoorQ04
import Derived.Test.YtldgamgdbneneaaDoorQ11
import Derived.Test.YtldgamgdbneneaaDoorQ24
import Derived.Test.YtldgamgdbneneaaDoorQ25
import Derived.Test.YtldgamgdbneneaaDoorQ29
namespace Go.Proofs.YtldgamgdbneneaaDoor
open Go Go.RowKit Go.Shelf

theorem ready_new : Ready (DM.new 156) 3 := ⟨rfl, by simp [DM.new, DM.size], .inl rfl⟩
theorem act6_fault {m : DM} {M : List (List Nat)} (h : MInv m M) {x : Act6} (ha : ∀ y ∈ x.act.bl, y < 256) (hs : x.sl = false) (hk : 3 ≤ x.act.kind % 9 ∧ x.act.kind % 9 ≤ 5) : MInv (m.act6 x) M := by
  have e : m.act6 x = (m.act x.act.kind x.act.sec x.act.num x.act.bl x.act.kl).2 := by unfold DM.act6; rw [if_neg (by rw [hs]; simp)]
  rw [e]
  exact h.fault _ _ _ ha _ hk
theorem tag_self (a b c d e : Int) : (a == a && (b == b && (c == c && (d == d && e == e)))) = true := by simp

set_option maxRecDepth 100000 in
set_option maxHeartbeats 3200000 in
theorem ghostHonest_law (ta tb tc td te : Int) (A2 : Option Addr) (n2 c2 : Nat) (body : List Nat) (A : Option Addr) (n c : Nat) (l : List Act6) (w : World) (hb : Bs w w.heap.size A2 n2 c2 body) (ha : Acts6 w w.heap.size A n c l) (hL : LaidF w) :
    Calls Tryd.prog 5 #[.agg #[.int .i64 ta, .int .i64 tb, .int .i64 tc, .int .i64 td, .int .i64 te], .slice A2 n2 c2, .slice A n c] w fun e w' => e = .returned (.bool true) ∧ Ext w w' := by
  obtain ⟨i0, hi, hz0, hz1, hz2⟩ := info_parts byte_info
  have hE := (Ext.refl w).alloc (.cells #[.int .i64 ta, .int .i64 tb, .int .i64 tc, .int .i64 td, .int .i64 te] 37)
  have hT := heap_alloc_new w (.cells #[.int .i64 ta, .int .i64 tb, .int .i64 tc, .int .i64 td, .int .i64 te] 37)
  obtain ⟨W0, hW0⟩ : ∃ W0, w.alloc (.cells #[.int .i64 ta, .int .i64 tb, .int .i64 tc, .int .i64 td, .int .i64 te] 37) = W0 := ⟨_, rfl⟩
  rw [hW0] at hE hT
  have HE0 := Lib.hid hE
  have HT0 := Lib.hid hT
  have HA : Hid (Acts6 W0 W0.heap.size A n c l) := Lib.hid ((ha.below hE).more hE.size)
  have HB : Hid (Bs W0 W0.heap.size A2 n2 c2 body) := Lib.hid ((hb.below hE).more hE.size)
  have HL : Hid (LaidF W0) := Lib.hid (hL.ext hE)
  have HBN : Hid (body.length = n2) := Lib.hid hb.len
  have hn : 0 ≤ n := Nat.zero_le _
  have hn2 : 0 ≤ n2 := Nat.zero_le _
  clear ha hb hL hE hT
  go_enter Tryd.func5, Tryd.ntmps5
  go_wp2_with fail
  refine (gawake_any W0 HL.out).mono ?_
  rintro e w1 ⟨rfl, hx⟩
  have HE := Lib.hid hx
  clear hx
  go_wp2_with fail
  refine (great6_of HE.out.size A n c l (HA.out.below HE.out)).mono ?_
  rintro e w1' ⟨b, rfl, hx, hg⟩
  have HE := Lib.hid (HE.out.trans hx)
  clear hx
  cases b with
  | true =>
    go_wp2_with fail
    go_ret
    exact ⟨rfl, HE0.out.trans HE.out⟩
  | false =>
    obtain ⟨hn60, hall⟩ := hg rfl
    have HALL := Lib.hid hall
    clear hg hall
    by_cases hn43 : 43 < n2
    · go_wp2_with fail
      go_ret
      exact ⟨rfl, HE0.out.trans HE.out⟩
    obtain ⟨⟨i0, i1, i2, i3, i4⟩, _⟩ := five_cells ((HE.out.block _ (Array.getElem?_eq_some_iff.1 HT0.out).1).trans HT0.out)
    go_wp2_with fail
    refine (may_any _ _ _ _ _ _ (HL.out.ext HE.out).a.t).mono ?_
    by_cases hm : mayB ta tb tc td te = true
    · rw [hm]
      rintro e w1'' ⟨rfl, hx⟩
      have HE := Lib.hid (HE.out.trans hx)
      have HM := Lib.hid hm
      clear hx hm i0 i1 i2 i3 i4
      obtain ⟨hsE, hsl, hw1, hs0, hs1⟩ := may_all HM.out (show n2 ≤ 43 by omega) HBN.out
      obtain ⟨m1, m2, m3, m4, m5, m6, m7, m8⟩ := seal_mine hsE
      have hwN : wideN ta tb tc td te = wid tb := by unfold wideN; rw [if_pos HM.out]
      have hw2 := wid_le tb
      have HSLT : Hid (∀ x ∈ sealL ta tb tc td te body (wid tb : Nat), x < 256) := Lib.hid (sealL_lt HB.out.rd.lt)
      have HPL := Lib.hid (may_place HM.out)
      have HPUT := Lib.hid (fun (V : World) (d : Nat) (F : Nat → Prop) (hd : DK W0 V d F (DM.new 156)) => put_of hd HL.out ta tb tc td te A2 n2 c2 body HB.out HM.out (by omega) ready_new (by simp [DM.new]))
      obtain ⟨L, hLL⟩ : ∃ L, sealL ta tb tc td te body (wid tb : Nat) = L := ⟨_, rfl⟩
      obtain ⟨S, hSS⟩ : ∃ S, firstS tb tc = S := ⟨_, rfl⟩
      obtain ⟨W, hWW⟩ : ∃ W, wid tb = W := ⟨_, rfl⟩
      rw [hLL] at hsl m1 m2 m3 m4 m5 m6 m7 m8 HSLT HPUT
      rw [hSS] at hs0 hs1 HPUT
      rw [hWW] at hsl hw1 hs1 hwN HPUT hw2
      have HPP := Lib.hid (put_put (DM.new_ok 156) (ready_new.less (show 1 + W ≤ 3 by omega)) hs0 hs1 hsl HSLT.out)
      have HMINE := Lib.hid (And.intro m1 (And.intro m2 m3))
      have HMFL := Lib.hid (And.intro m4 (And.intro m5 (And.intro m6 (And.intro m7 m8))))
      have HSL := Lib.hid hsl
      have HSS := Lib.hid hSS
      have HWW := Lib.hid hWW
      have HWN := Lib.hid hwN
      clear hsE hsl m1 m2 m3 m4 m5 m6 m7 m8 hLL hSS hWW hwN HSLT
      go_wp2_with fail
      refine (gnew_156 _).mono ?_
      rintro e w2 ⟨d, rfl, hp, hx⟩
      have HD : Hid (DK W0 w2 d _ (DM.new 156)) := Lib.hid ⟨hp, fun k hk => Nat.le_trans HE.out.size hk.1, HE.out.trans hx⟩
      clear hp hx
      obtain ⟨⟨i0, i1, i2, i3, i4⟩, _⟩ := five_cells ((HD.out.bel.block _ (Array.getElem?_eq_some_iff.1 HT0.out).1).trans HT0.out)
      go_wp2_with fail
      refine (HPUT.out _ _ _ HD.out).mono ?_
      rintro e w3 ⟨rfl, F3, hd3⟩
      have HD := Lib.hid hd3
      clear hd3 i0 i1 i2 i3 i4 HPUT
      obtain ⟨P, hP⟩ : ∃ P, (DM.new 156).put S L W = P := ⟨_, rfl⟩
      rw [hP] at HD HPP
      clear hP
      go_wp2_with fail
      go_loopw [9] (fun i wr => ∃ (k : Nat) (F : Nat → Prop) (m : DM), k ≤ n ∧ i = .int .i64 k ∧ Hid (DK W0 wr d F m) ∧ Hid (MInv m P.meant ∧ m.waits.length ≤ 2 * k)) (fun i _ => n - (intOf i).toNat)
      case atStart => exact ⟨0, _, _, Nat.zero_le _, rfl, HD, Lib.hid ⟨⟨HPP.out.ok, HPP.out.size, rfl⟩, by rw [HPP.out.waits]; simp⟩⟩
      case round =>
        obtain ⟨k, F, m, hkn, rfl, HD, HM2⟩ := hrel
        by_cases hlt : k < n
        · obtain ⟨g, o, x, rfl, hg, hx, hok, hc⟩ := HA.out.at_ hlt
          obtain ⟨h0, h1, h2, h3, h4, h5, h6, h7, h8, h9, h10, h11⟩ := hc.below HD.out.bel hg
          have hmem := HALL.out x (List.mem_of_getElem? hx)
          obtain ⟨q, hq⟩ : ∃ q, x.act.kind % 9 = q := ⟨_, rfl⟩
          have hq9 : q < 9 := by omega
          have hqm : ((x.act.kind : Nat) : Int).tmod 9 = (q : Int) := by rw [Int.tmod_eq_emod_of_nonneg (by omega)]; omega
          have hwq8 : IntKind.u8.wrap (q : Int) = (q : Int) := by rw [IntKind.wrap_u8]; omega
          have hdo := do6_dk HD.out HL.out.a.t x hok hmem.2.1 (by have := HM2.out.2; omega)
          have hnext : x.sl = false → 3 ≤ q → q ≤ 5 → MInv (m.act6 x) P.meant ∧ (m.act6 x).waits.length ≤ 2 * (k + 1) := fun hs c3 c5 => by
            refine ⟨act6_fault HM2.out.1 hok.act.bytes.rd.lt hs (by rw [hq]; exact ⟨c3, c5⟩), ?_⟩
            have := act6_waits m x
            have := HM2.out.2
            omega
          have HDO := Lib.hid hdo
          have HNX := Lib.hid hnext
          have HSK : Hid (MInv m P.meant ∧ m.waits.length ≤ 2 * (k + 1)) := Lib.hid ⟨HM2.out.1, by have := HM2.out.2; omega⟩
          clear hx hok hc hmem hq hdo hnext
          by_cases hs : x.sl = true
          · rw [hs] at h0
            clear hs HNX HDO
            go_wp2_with fail
            go_roundw
            case rel => exact ⟨k + 1, _, _, by omega, by go_num, HD, HSK⟩
            case measure => simp [intOf]; omega
          · have hs : x.sl = false := by simpa using hs
            rw [hs] at h0 HDO
            by_cases c3 : q < 3
            · clear hs HNX HDO
              go_wp2_with fail
              go_roundw
              case rel => exact ⟨k + 1, _, _, by omega, by go_num, HD, HSK⟩
              case measure => simp [intOf]; omega
            · by_cases c5 : 5 < q
              · clear hs HNX HDO
                go_wp2_with fail
                go_roundw
                case rel => exact ⟨k + 1, _, _, by omega, by go_num, HD, HSK⟩
                case measure => simp [intOf]; omega
              · have HN := Lib.hid (HNX.out hs (by omega) (by omega))
                clear hs
                go_wp2_with fail
                refine HDO.out.mono ?_
                rintro e w4 ⟨⟨v, rfl⟩, F', hD'⟩
                have HD' := Lib.hid hD'
                clear hD'
                go_wp2_with fail
                go_roundw
                case rel => exact ⟨k + 1, _, _, by omega, by go_num, HD', HN⟩
                case measure => simp [intOf]; omega
        · have hml : m.meantL S W = L := by
            have e1 := MInv.meantL (m := m) (m' := P) HM2.out.1 ⟨HPP.out.ok, HPP.out.size, rfl⟩ S W
            rw [e1, HPP.out.meantL HSL.out]
          have HML := Lib.hid hml
          obtain ⟨⟨i0, i1, i2, i3, i4⟩, _⟩ := five_cells ((HD.out.bel.block _ (Array.getElem?_eq_some_iff.1 HT0.out).1).trans HT0.out)
          have hho := honest_yes HD.out.disk (HL.out.ext HD.out.bel) ta tb tc (by rw [HM2.out.1.size]; exact HPL.out)
          rw [HSS.out, HWW.out, hml, HMINE.out.1, HMINE.out.2.1, HMINE.out.2.2] at hho
          have HHO := Lib.hid hho
          clear hho hml
          go_wp2_with fail
          refine HHO.out.mono ?_
          rintro e w7 ⟨A7, N7, rfl, hb7, hx⟩
          obtain rfl : N7 = n2 := by rw [← HBN.out]; exact hb7.len.symm
          have hr := heap_alloc_new w7 (.cells #[.int .i64 ta, .int .i64 tb, .int .i64 tc, .int .i64 td, .int .i64 te] 37)
          have HR7 := Lib.hid hr
          have HD7 := Lib.hid ((HD.out.ext hx).ext ((Ext.refl w7).alloc (.cells #[.int .i64 ta, .int .i64 tb, .int .i64 tc, .int .i64 td, .int .i64 te] 37)))
          have HB7 := Lib.hid (hb7.ext ((Ext.refl w7).alloc (.cells #[.int .i64 ta, .int .i64 tb, .int .i64 tc, .int .i64 td, .int .i64 te] 37)))
          clear hx hb7 i0 i1 i2 i3 i4 hr
          obtain ⟨⟨i0, i1, i2, i3, i4⟩, _⟩ := five_cells ((HD7.out.bel.block _ (Array.getElem?_eq_some_iff.1 HT0.out).1).trans HT0.out)
          have hpl := place_yes HD7.out.disk (HL.out.ext HD7.out.bel) ta tb tc (by rw [HM2.out.1.size]; exact HPL.out)
          obtain ⟨bd, hbd⟩ : ∃ bd, m.badB ta tb tc = bd := ⟨_, rfl⟩
          obtain ⟨hu, hhu⟩ : ∃ hu, anyIn m.hurt S W = hu := ⟨_, rfl⟩
          rw [HSS.out, HWW.out, hhu, hbd] at hpl
          have HUH : Hid (hu = false → m.lostB S W = false ∧ m.restL S W = L) := Lib.hid fun h => by
            obtain ⟨u1, u2⟩ := unhurt_place (hhu.trans h)
            exact ⟨u1, u2.trans HML.out⟩
          have HBD : Hid (bd = (m.lostB S W || decide (stM (m.restL S W) ta tb tc = 2))) := Lib.hid (by
            rw [← hbd]
            unfold DM.badB
            rw [HSS.out, HWW.out])
          have HPLC := Lib.hid hpl
          clear hpl hbd hhu
          cases hu with
          | true =>
            cases bd with
            | true =>
              have HPLC : Hid _ := Lib.hid (by have h := HPLC.out; rw [Bool.true_and] at h; exact h)
              go_wp2_with fail
              refine HPLC.out.mono ?_
              rintro e w8 ⟨rfl, hx⟩
              have hr8 := (hx.block _ (Array.getElem?_eq_some_iff.1 HR7.out).1).trans HR7.out
              have HB8 := Lib.hid (HB7.out.ext hx)
              have HD8 := Lib.hid (HD7.out.ext hx)
              clear hx i0 i1 i2 i3 i4
              obtain ⟨⟨i0, i1, i2, i3, i4⟩, _⟩ := five_cells ((HD8.out.bel.block _ (Array.getElem?_eq_some_iff.1 HT0.out).1).trans HT0.out)
              obtain ⟨⟨j0, j1, j2, j3, j4⟩, _⟩ := five_cells hr8
              have hq := tag_neq ta tb tc td te ta tb tc td te
              clear hr8
              go_wp2_with fail
              refine (same_by _ _ body body _ _ _ _ _ HB8.out ((HB.out.below HD8.out.bel).more HD8.out.bel.size)).mono ?_
              rw [decide_eq_true (rfl : body = body)]
              rintro e w9 ⟨rfl, hx⟩
              have HD9 := Lib.hid (HD8.out.ext hx)
              clear hx i0 i1 i2 i3 i4 j0 j1 j2 j3 j4 hq
              go_wp2_with fail
              go_loopw [18, 19, 20] (fun v lo i wr => ∃ k : Nat, k ≤ W ∧ i = .int .i64 k ∧ lo = .bool (m.lostB S k) ∧ Hid (Gath w9 wr v (m.restL S k) k)) (fun _ _ i _ => W - (intOf i).toNat)
              case atStart => exact ⟨0, Nat.zero_le _, rfl, rfl, Lib.hid (Gath.start w9)⟩
              case round =>
                obtain ⟨k, hk, rfl, rfl, HG⟩ := hrel
                obtain ⟨A', c', rfl, hby⟩ := HG.out.form
                have HBY := Lib.hid hby
                clear hby
                have HDk := Lib.hid (HD9.out.ext HG.out.ext)
                obtain ⟨⟨i0, i1, i2, i3, i4⟩, _⟩ := five_cells ((HDk.out.bel.block _ (Array.getElem?_eq_some_iff.1 HT0.out).1).trans HT0.out)
                have hwd := wide6_any ta tb tc td te wr (HL.out.ext HDk.out.bel).a.t
                rw [HWN.out] at hwd
                have HWD := Lib.hid hwd
                clear hwd
                by_cases hlt : k < W
                · have hn' := at_new HDk.out.disk (S + (k : Int))
                  have HN := Lib.hid hn'
                  have HM3 : Hid (m.restL S (k + 1) = m.restL S k ++ (m.at_ (S + (k : Int))).1) := Lib.hid rfl
                  have HLO : Hid (m.lostB S (k + 1) = (m.lostB S k || (m.at_ (S + (k : Int))).2.1)) := Lib.hid (anyIn_succ (fun s => (m.at_ s).2.1) S k)
                  have hfew := HG.out.few
                  have q3 : IntKind.i64.wrap (S + (k : Int)) = S + (k : Int) := IntWalk.i64_in _ (by omega)
                  clear hn'
                  obtain ⟨L1, hL1⟩ : ∃ L1, m.restL S k = L1 := ⟨_, rfl⟩
                  obtain ⟨lo, hlo⟩ : ∃ lo, m.lostB S k = lo := ⟨_, rfl⟩
                  rw [hL1] at HG HBY HM3 hfew
                  rw [hlo] at HLO
                  rw [hL1, hlo]
                  clear hL1 hlo
                  go_wp2_with fail
                  refine HWD.out.mono ?_
                  rintro e v1 ⟨rfl, hx⟩
                  have HG := Lib.hid (HG.out.more hx)
                  have HDk := Lib.hid (HDk.out.ext hx)
                  clear hx i0 i1 i2 i3 i4
                  obtain ⟨⟨i0, i1, i2, i3, i4⟩, _⟩ := five_cells ((HDk.out.bel.block _ (Array.getElem?_eq_some_iff.1 HT0.out).1).trans HT0.out)
                  have hfst := first_any tb tc v1 (HL.out.ext HDk.out.bel).a.t
                  rw [HSS.out] at hfst
                  have HFST := Lib.hid hfst
                  clear hfst
                  go_wp2_with fail
                  refine HFST.out.mono ?_
                  rintro e v2 ⟨rfl, hx⟩
                  have HG := Lib.hid (HG.out.more hx)
                  have HDk := Lib.hid (HDk.out.ext hx)
                  clear hx i0 i1 i2 i3 i4
                  go_wp2_with fail
                  refine (rest_pd HDk.out.disk (S + (k : Int))).mono ?_
                  obtain ⟨L2, hL2⟩ : ∃ L2, (m.at_ (S + (k : Int))).1 = L2 := ⟨_, rfl⟩
                  obtain ⟨E2, hE2⟩ : ∃ E2, (m.at_ (S + (k : Int))).2.2 = E2 := ⟨_, rfl⟩
                  obtain ⟨lo2, hlo2⟩ : ∃ lo2, (m.at_ (S + (k : Int))).2.1 = lo2 := ⟨_, rfl⟩
                  rw [hL2, hE2, hlo2]
                  rw [hL2] at HM3 HN
                  rw [hlo2] at HLO
                  clear hL2 hE2 hlo2
                  rintro e v3 ⟨A2', n2', rfl, hnew, hx⟩
                  obtain rfl : n2' = L2.length := hnew.len.symm
                  have HB3 := Lib.hid hnew.by
                  have HG := Lib.hid (HG.out.more hx)
                  clear hx hnew
                  have hl2 := HN.out.2
                  have hsz := HG.out.ext.size
                  go_wp2_with (at_builtin; refine wpList_append_by rfl _ _ 38 rfl w9.heap.size 5 i0 Tryd.underlying38 hi hz0 hz1 hz2 _ L1.length (vb L1) rfl HG.out.own A2' L2.length L2.length L2 rfl HB3.out (by omega) hsz ?_)
                  rintro v' v4 hown hgrow
                  have HG := Lib.hid (HG.out.app hgrow hown HN.out.1 HN.out.2)
                  clear hown hgrow
                  cases lo with
                  | true =>
                    go_wp2_with fail
                    go_roundw
                    case rel => exact ⟨k + 1, by omega, by go_num, by rw [HLO.out]; rfl, by rw [HM3.out]; exact HG⟩
                    case measure => simp [intOf]; omega
                  | false =>
                    go_wp2_with fail
                    go_roundw
                    case rel => exact ⟨k + 1, by omega, by go_num, by rw [HLO.out]; rfl, by rw [HM3.out]; exact HG⟩
                    case measure => simp [intOf]; omega
                · obtain rfl : k = W := by omega
                  go_wp2_with fail
                  refine HWD.out.mono ?_
                  rintro e v1 ⟨rfl, hx⟩
                  have HDk := Lib.hid (HDk.out.ext hx)
                  have HBY := Lib.hid (HBY.out.ext hx)
                  clear hx i0 i1 i2 i3 i4
                  obtain ⟨⟨i0, i1, i2, i3, i4⟩, _⟩ := five_cells ((HDk.out.bel.block _ (Array.getElem?_eq_some_iff.1 HT0.out).1).trans HT0.out)
                  obtain ⟨L1, hL1⟩ : ∃ L1, m.restL S k = L1 := ⟨_, rfl⟩
                  obtain ⟨lo, hlo⟩ : ∃ lo, m.lostB S k = lo := ⟨_, rfl⟩
                  rw [hL1] at HBY HBD HUH
                  rw [hlo] at HBD HUH
                  rw [hL1, hlo]
                  clear hL1 hlo
                  have hmi := mine_any A' L1.length c' L1 ta tb tc v1 (HL.out.ext HDk.out.bel) HBY.out
                  obtain ⟨st, hst⟩ : ∃ st, stM L1 ta tb tc = st := ⟨_, rfl⟩
                  obtain ⟨f0, hf0⟩ : ∃ f, mfl L1 ta tb tc 0 = f := ⟨_, rfl⟩
                  obtain ⟨f1, hf1⟩ : ∃ f, mfl L1 ta tb tc 1 = f := ⟨_, rfl⟩
                  obtain ⟨f2, hf2⟩ : ∃ f, mfl L1 ta tb tc 2 = f := ⟨_, rfl⟩
                  obtain ⟨f3, hf3⟩ : ∃ f, mfl L1 ta tb tc 3 = f := ⟨_, rfl⟩
                  obtain ⟨f4, hf4⟩ : ∃ f, mfl L1 ta tb tc 4 = f := ⟨_, rfl⟩
                  rw [hst, hf0, hf1, hf2, hf3, hf4] at hmi
                  rw [hst] at HBD
                  have HMI := Lib.hid hmi
                  clear hmi hst hf0 hf1 hf2 hf3 hf4 HUH
                  go_wp2_with fail
                  refine HMI.out.mono ?_
                  rintro e v2 ⟨A3, N3, rfl, _, hx⟩
                  have HDk := Lib.hid ((HDk.out.ext hx).ext ((Ext.refl v2).alloc (.cells #[.int .i64 (f0 : Int), .int .i64 (f1 : Int), .int .i64 (f2 : Int), .int .i64 (f3 : Int), .int .i64 (f4 : Int)] 37)))
                  clear hx i0 i1 i2 i3 i4
                  cases lo with
                  | true =>
                    clear HBD
                    go_wp2_with fail
                    go_ret
                    exact ⟨rfl, HE0.out.trans HDk.out.bel⟩
                  | false =>
                    have h2 : st = 2 := of_decide_eq_true (by have h := HBD.out; rw [Bool.false_or] at h; exact h.symm)
                    subst h2
                    clear HBD
                    go_wp2_with fail
                    go_ret
                    exact ⟨rfl, HE0.out.trans HDk.out.bel⟩
            | false =>
              have HPLC : Hid _ := Lib.hid (by have h := HPLC.out; rw [Bool.true_and] at h; exact h)
              go_wp2_with fail
              refine HPLC.out.mono ?_
              rintro e w8 ⟨rfl, hx⟩
              have hr8 := (hx.block _ (Array.getElem?_eq_some_iff.1 HR7.out).1).trans HR7.out
              have HB8 := Lib.hid (HB7.out.ext hx)
              have HD8 := Lib.hid (HD7.out.ext hx)
              clear hx i0 i1 i2 i3 i4
              obtain ⟨⟨i0, i1, i2, i3, i4⟩, _⟩ := five_cells ((HD8.out.bel.block _ (Array.getElem?_eq_some_iff.1 HT0.out).1).trans HT0.out)
              obtain ⟨⟨j0, j1, j2, j3, j4⟩, _⟩ := five_cells hr8
              have hq := tag_neq ta tb tc td te ta tb tc td te
              clear hr8
              go_wp2_with fail
              refine (same_by _ _ body body _ _ _ _ _ HB8.out ((HB.out.below HD8.out.bel).more HD8.out.bel.size)).mono ?_
              rw [decide_eq_true (rfl : body = body)]
              rintro e w9 ⟨rfl, hx⟩
              have HD9 := Lib.hid (HD8.out.ext hx)
              clear hx i0 i1 i2 i3 i4 j0 j1 j2 j3 j4 hq
              go_wp2_with fail
              go_loopw [18, 19, 20] (fun v lo i wr => ∃ k : Nat, k ≤ W ∧ i = .int .i64 k ∧ lo = .bool (m.lostB S k) ∧ Hid (Gath w9 wr v (m.restL S k) k)) (fun _ _ i _ => W - (intOf i).toNat)
              case atStart => exact ⟨0, Nat.zero_le _, rfl, rfl, Lib.hid (Gath.start w9)⟩
              case round =>
                obtain ⟨k, hk, rfl, rfl, HG⟩ := hrel
                obtain ⟨A', c', rfl, hby⟩ := HG.out.form
                have HBY := Lib.hid hby
                clear hby
                have HDk := Lib.hid (HD9.out.ext HG.out.ext)
                obtain ⟨⟨i0, i1, i2, i3, i4⟩, _⟩ := five_cells ((HDk.out.bel.block _ (Array.getElem?_eq_some_iff.1 HT0.out).1).trans HT0.out)
                have hwd := wide6_any ta tb tc td te wr (HL.out.ext HDk.out.bel).a.t
                rw [HWN.out] at hwd
                have HWD := Lib.hid hwd
                clear hwd
                by_cases hlt : k < W
                · have hn' := at_new HDk.out.disk (S + (k : Int))
                  have HN := Lib.hid hn'
                  have HM3 : Hid (m.restL S (k + 1) = m.restL S k ++ (m.at_ (S + (k : Int))).1) := Lib.hid rfl
                  have HLO : Hid (m.lostB S (k + 1) = (m.lostB S k || (m.at_ (S + (k : Int))).2.1)) := Lib.hid (anyIn_succ (fun s => (m.at_ s).2.1) S k)
                  have hfew := HG.out.few
                  have q3 : IntKind.i64.wrap (S + (k : Int)) = S + (k : Int) := IntWalk.i64_in _ (by omega)
                  clear hn'
                  obtain ⟨L1, hL1⟩ : ∃ L1, m.restL S k = L1 := ⟨_, rfl⟩
                  obtain ⟨lo, hlo⟩ : ∃ lo, m.lostB S k = lo := ⟨_, rfl⟩
                  rw [hL1] at HG HBY HM3 hfew
                  rw [hlo] at HLO
                  rw [hL1, hlo]
                  clear hL1 hlo
                  go_wp2_with fail
                  refine HWD.out.mono ?_
                  rintro e v1 ⟨rfl, hx⟩
                  have HG := Lib.hid (HG.out.more hx)
                  have HDk := Lib.hid (HDk.out.ext hx)
                  clear hx i0 i1 i2 i3 i4
                  obtain ⟨⟨i0, i1, i2, i3, i4⟩, _⟩ := five_cells ((HDk.out.bel.block _ (Array.getElem?_eq_some_iff.1 HT0.out).1).trans HT0.out)
                  have hfst := first_any tb tc v1 (HL.out.ext HDk.out.bel).a.t
                  rw [HSS.out] at hfst
                  have HFST := Lib.hid hfst
                  clear hfst
                  go_wp2_with fail
                  refine HFST.out.mono ?_
                  rintro e v2 ⟨rfl, hx⟩
                  have HG := Lib.hid (HG.out.more hx)
                  have HDk := Lib.hid (HDk.out.ext hx)
                  clear hx i0 i1 i2 i3 i4
                  go_wp2_with fail
                  refine (rest_pd HDk.out.disk (S + (k : Int))).mono ?_
                  obtain ⟨L2, hL2⟩ : ∃ L2, (m.at_ (S + (k : Int))).1 = L2 := ⟨_, rfl⟩
                  obtain ⟨E2, hE2⟩ : ∃ E2, (m.at_ (S + (k : Int))).2.2 = E2 := ⟨_, rfl⟩
                  obtain ⟨lo2, hlo2⟩ : ∃ lo2, (m.at_ (S + (k : Int))).2.1 = lo2 := ⟨_, rfl⟩
                  rw [hL2, hE2, hlo2]
                  rw [hL2] at HM3 HN
                  rw [hlo2] at HLO
                  clear hL2 hE2 hlo2
                  rintro e v3 ⟨A2', n2', rfl, hnew, hx⟩
                  obtain rfl : n2' = L2.length := hnew.len.symm
                  have HB3 := Lib.hid hnew.by
                  have HG := Lib.hid (HG.out.more hx)
                  clear hx hnew
                  have hl2 := HN.out.2
                  have hsz := HG.out.ext.size
                  go_wp2_with (at_builtin; refine wpList_append_by rfl _ _ 38 rfl w9.heap.size 5 i0 Tryd.underlying38 hi hz0 hz1 hz2 _ L1.length (vb L1) rfl HG.out.own A2' L2.length L2.length L2 rfl HB3.out (by omega) hsz ?_)
                  rintro v' v4 hown hgrow
                  have HG := Lib.hid (HG.out.app hgrow hown HN.out.1 HN.out.2)
                  clear hown hgrow
                  cases lo with
                  | true =>
                    go_wp2_with fail
                    go_roundw
                    case rel => exact ⟨k + 1, by omega, by go_num, by rw [HLO.out]; rfl, by rw [HM3.out]; exact HG⟩
                    case measure => simp [intOf]; omega
                  | false =>
                    go_wp2_with fail
                    go_roundw
                    case rel => exact ⟨k + 1, by omega, by go_num, by rw [HLO.out]; rfl, by rw [HM3.out]; exact HG⟩
                    case measure => simp [intOf]; omega
                · obtain rfl : k = W := by omega
                  go_wp2_with fail
                  refine HWD.out.mono ?_
                  rintro e v1 ⟨rfl, hx⟩
                  have HDk := Lib.hid (HDk.out.ext hx)
                  have HBY := Lib.hid (HBY.out.ext hx)
                  clear hx i0 i1 i2 i3 i4
                  obtain ⟨⟨i0, i1, i2, i3, i4⟩, _⟩ := five_cells ((HDk.out.bel.block _ (Array.getElem?_eq_some_iff.1 HT0.out).1).trans HT0.out)
                  obtain ⟨L1, hL1⟩ : ∃ L1, m.restL S k = L1 := ⟨_, rfl⟩
                  obtain ⟨lo, hlo⟩ : ∃ lo, m.lostB S k = lo := ⟨_, rfl⟩
                  rw [hL1] at HBY HBD HUH
                  rw [hlo] at HBD HUH
                  rw [hL1, hlo]
                  clear hL1 hlo
                  have hmi := mine_any A' L1.length c' L1 ta tb tc v1 (HL.out.ext HDk.out.bel) HBY.out
                  obtain ⟨st, hst⟩ : ∃ st, stM L1 ta tb tc = st := ⟨_, rfl⟩
                  obtain ⟨f0, hf0⟩ : ∃ f, mfl L1 ta tb tc 0 = f := ⟨_, rfl⟩
                  obtain ⟨f1, hf1⟩ : ∃ f, mfl L1 ta tb tc 1 = f := ⟨_, rfl⟩
                  obtain ⟨f2, hf2⟩ : ∃ f, mfl L1 ta tb tc 2 = f := ⟨_, rfl⟩
                  obtain ⟨f3, hf3⟩ : ∃ f, mfl L1 ta tb tc 3 = f := ⟨_, rfl⟩
                  obtain ⟨f4, hf4⟩ : ∃ f, mfl L1 ta tb tc 4 = f := ⟨_, rfl⟩
                  rw [hst, hf0, hf1, hf2, hf3, hf4] at hmi
                  rw [hst] at HBD
                  have HMI := Lib.hid hmi
                  clear hmi hst hf0 hf1 hf2 hf3 hf4 HUH
                  go_wp2_with fail
                  refine HMI.out.mono ?_
                  rintro e v2 ⟨A3, N3, rfl, _, hx⟩
                  have HDk := Lib.hid ((HDk.out.ext hx).ext ((Ext.refl v2).alloc (.cells #[.int .i64 (f0 : Int), .int .i64 (f1 : Int), .int .i64 (f2 : Int), .int .i64 (f3 : Int), .int .i64 (f4 : Int)] 37)))
                  clear hx i0 i1 i2 i3 i4
                  cases lo with
                  | true =>
                    have h := HBD.out
                    rw [Bool.true_or] at h
                    cases h
                  | false =>
                    have h2 : ¬ st = 2 := of_decide_eq_false (by have h := HBD.out; rw [Bool.false_or] at h; exact h.symm)
                    have hne : ((st : Int) == 2) = false := by simp; omega
                    clear HBD
                    go_wp2_with fail
                    go_ret
                    exact ⟨rfl, HE0.out.trans HDk.out.bel⟩
          | false =>
            have HPLC : Hid _ := Lib.hid (by have h := HPLC.out; rw [Bool.false_and] at h; exact h)
            go_wp2_with fail
            refine HPLC.out.mono ?_
            rintro e w8 ⟨rfl, hx⟩
            have hr8 := (hx.block _ (Array.getElem?_eq_some_iff.1 HR7.out).1).trans HR7.out
            have HB8 := Lib.hid (HB7.out.ext hx)
            have HD8 := Lib.hid (HD7.out.ext hx)
            clear hx i0 i1 i2 i3 i4
            obtain ⟨⟨i0, i1, i2, i3, i4⟩, _⟩ := five_cells ((HD8.out.bel.block _ (Array.getElem?_eq_some_iff.1 HT0.out).1).trans HT0.out)
            obtain ⟨⟨j0, j1, j2, j3, j4⟩, _⟩ := five_cells hr8
            have hq := tag_neq ta tb tc td te ta tb tc td te
            clear hr8
            go_wp2_with fail
            refine (same_by _ _ body body _ _ _ _ _ HB8.out ((HB.out.below HD8.out.bel).more HD8.out.bel.size)).mono ?_
            rw [decide_eq_true (rfl : body = body)]
            rintro e w9 ⟨rfl, hx⟩
            have HD9 := Lib.hid (HD8.out.ext hx)
            clear hx i0 i1 i2 i3 i4 j0 j1 j2 j3 j4 hq
            go_wp2_with fail
            go_loopw [18, 19, 20] (fun v lo i wr => ∃ k : Nat, k ≤ W ∧ i = .int .i64 k ∧ lo = .bool (m.lostB S k) ∧ Hid (Gath w9 wr v (m.restL S k) k)) (fun _ _ i _ => W - (intOf i).toNat)
            case atStart => exact ⟨0, Nat.zero_le _, rfl, rfl, Lib.hid (Gath.start w9)⟩
            case round =>
              obtain ⟨k, hk, rfl, rfl, HG⟩ := hrel
              obtain ⟨A', c', rfl, hby⟩ := HG.out.form
              have HBY := Lib.hid hby
              clear hby
              have HDk := Lib.hid (HD9.out.ext HG.out.ext)
              obtain ⟨⟨i0, i1, i2, i3, i4⟩, _⟩ := five_cells ((HDk.out.bel.block _ (Array.getElem?_eq_some_iff.1 HT0.out).1).trans HT0.out)
              have hwd := wide6_any ta tb tc td te wr (HL.out.ext HDk.out.bel).a.t
              rw [HWN.out] at hwd
              have HWD := Lib.hid hwd
              clear hwd
              by_cases hlt : k < W
              · have hn' := at_new HDk.out.disk (S + (k : Int))
                have HN := Lib.hid hn'
                have HM3 : Hid (m.restL S (k + 1) = m.restL S k ++ (m.at_ (S + (k : Int))).1) := Lib.hid rfl
                have HLO : Hid (m.lostB S (k + 1) = (m.lostB S k || (m.at_ (S + (k : Int))).2.1)) := Lib.hid (anyIn_succ (fun s => (m.at_ s).2.1) S k)
                have hfew := HG.out.few
                have q3 : IntKind.i64.wrap (S + (k : Int)) = S + (k : Int) := IntWalk.i64_in _ (by omega)
                clear hn'
                obtain ⟨L1, hL1⟩ : ∃ L1, m.restL S k = L1 := ⟨_, rfl⟩
                obtain ⟨lo, hlo⟩ : ∃ lo, m.lostB S k = lo := ⟨_, rfl⟩
                rw [hL1] at HG HBY HM3 hfew
                rw [hlo] at HLO
                rw [hL1, hlo]
                clear hL1 hlo
                go_wp2_with fail
                refine HWD.out.mono ?_
                rintro e v1 ⟨rfl, hx⟩
                have HG := Lib.hid (HG.out.more hx)
                have HDk := Lib.hid (HDk.out.ext hx)
                clear hx i0 i1 i2 i3 i4
                obtain ⟨⟨i0, i1, i2, i3, i4⟩, _⟩ := five_cells ((HDk.out.bel.block _ (Array.getElem?_eq_some_iff.1 HT0.out).1).trans HT0.out)
                have hfst := first_any tb tc v1 (HL.out.ext HDk.out.bel).a.t
                rw [HSS.out] at hfst
                have HFST := Lib.hid hfst
                clear hfst
                go_wp2_with fail
                refine HFST.out.mono ?_
                rintro e v2 ⟨rfl, hx⟩
                have HG := Lib.hid (HG.out.more hx)
                have HDk := Lib.hid (HDk.out.ext hx)
                clear hx i0 i1 i2 i3 i4
                go_wp2_with fail
                refine (rest_pd HDk.out.disk (S + (k : Int))).mono ?_
                obtain ⟨L2, hL2⟩ : ∃ L2, (m.at_ (S + (k : Int))).1 = L2 := ⟨_, rfl⟩
                obtain ⟨E2, hE2⟩ : ∃ E2, (m.at_ (S + (k : Int))).2.2 = E2 := ⟨_, rfl⟩
                obtain ⟨lo2, hlo2⟩ : ∃ lo2, (m.at_ (S + (k : Int))).2.1 = lo2 := ⟨_, rfl⟩
                rw [hL2, hE2, hlo2]
                rw [hL2] at HM3 HN
                rw [hlo2] at HLO
                clear hL2 hE2 hlo2
                rintro e v3 ⟨A2', n2', rfl, hnew, hx⟩
                obtain rfl : n2' = L2.length := hnew.len.symm
                have HB3 := Lib.hid hnew.by
                have HG := Lib.hid (HG.out.more hx)
                clear hx hnew
                have hl2 := HN.out.2
                have hsz := HG.out.ext.size
                go_wp2_with (at_builtin; refine wpList_append_by rfl _ _ 38 rfl w9.heap.size 5 i0 Tryd.underlying38 hi hz0 hz1 hz2 _ L1.length (vb L1) rfl HG.out.own A2' L2.length L2.length L2 rfl HB3.out (by omega) hsz ?_)
                rintro v' v4 hown hgrow
                have HG := Lib.hid (HG.out.app hgrow hown HN.out.1 HN.out.2)
                clear hown hgrow
                cases lo with
                | true =>
                  go_wp2_with fail
                  go_roundw
                  case rel => exact ⟨k + 1, by omega, by go_num, by rw [HLO.out]; rfl, by rw [HM3.out]; exact HG⟩
                  case measure => simp [intOf]; omega
                | false =>
                  go_wp2_with fail
                  go_roundw
                  case rel => exact ⟨k + 1, by omega, by go_num, by rw [HLO.out]; rfl, by rw [HM3.out]; exact HG⟩
                  case measure => simp [intOf]; omega
              · obtain rfl : k = W := by omega
                go_wp2_with fail
                refine HWD.out.mono ?_
                rintro e v1 ⟨rfl, hx⟩
                have HDk := Lib.hid (HDk.out.ext hx)
                have HBY := Lib.hid (HBY.out.ext hx)
                clear hx i0 i1 i2 i3 i4
                obtain ⟨⟨i0, i1, i2, i3, i4⟩, _⟩ := five_cells ((HDk.out.bel.block _ (Array.getElem?_eq_some_iff.1 HT0.out).1).trans HT0.out)
                obtain ⟨L1, hL1⟩ : ∃ L1, m.restL S k = L1 := ⟨_, rfl⟩
                obtain ⟨lo, hlo⟩ : ∃ lo, m.lostB S k = lo := ⟨_, rfl⟩
                rw [hL1] at HBY HBD HUH
                rw [hlo] at HBD HUH
                rw [hL1, hlo]
                clear hL1 hlo
                have hmi := mine_any A' L1.length c' L1 ta tb tc v1 (HL.out.ext HDk.out.bel) HBY.out
                obtain ⟨u1, rfl⟩ := HUH.out (by trivial)
                subst u1
                rw [HMINE.out.1, HMINE.out.2.2, HMFL.out.1, HMFL.out.2.1, HMFL.out.2.2.1, HMFL.out.2.2.2.1, HMFL.out.2.2.2.2] at hmi
                have HMI := Lib.hid hmi
                clear hmi HUH HBD
                go_wp2_with fail
                refine HMI.out.mono ?_
                rintro e v2 ⟨A3, N3, rfl, hb3, hx⟩
                have hN3 := hb3.len.symm.trans HBN.out
                subst hN3
                have hr3 := heap_alloc_new v2 (.cells #[.int .i64 ta, .int .i64 tb, .int .i64 tc, .int .i64 td, .int .i64 te] 37)
                have HB3 := Lib.hid (hb3.ext ((Ext.refl v2).alloc (.cells #[.int .i64 ta, .int .i64 tb, .int .i64 tc, .int .i64 td, .int .i64 te] 37)))
                have HDk := Lib.hid ((HDk.out.ext hx).ext ((Ext.refl v2).alloc (.cells #[.int .i64 ta, .int .i64 tb, .int .i64 tc, .int .i64 td, .int .i64 te] 37)))
                clear hx hb3 i0 i1 i2 i3 i4
                obtain ⟨⟨i0, i1, i2, i3, i4⟩, _⟩ := five_cells ((HDk.out.bel.block _ (Array.getElem?_eq_some_iff.1 HT0.out).1).trans HT0.out)
                obtain ⟨⟨j0, j1, j2, j3, j4⟩, _⟩ := five_cells hr3
                have hq := tag_eql ta tb tc td te ta tb tc td te
                clear hr3
                go_wp2_with fail
                refine (same_by _ _ body body _ _ _ _ _ HB3.out ((HB.out.below HDk.out.bel).more HDk.out.bel.size)).mono ?_
                rw [decide_eq_true (rfl : body = body)]
                rintro e v3 ⟨rfl, hx⟩
                have HX := Lib.hid (HDk.out.bel.trans hx)
                clear hx i0 i1 i2 i3 i4 j0 j1 j2 j3 j4 hq
                go_wp2_with fail
                go_ret
                exact ⟨rfl, HE0.out.trans HX.out⟩
    · rw [show mayB ta tb tc td te = false by simpa using hm]
      rintro e w1'' ⟨rfl, hx⟩
      have HE := Lib.hid (HE.out.trans hx)
      clear hx hm i0 i1 i2 i3 i4
      go_wp2_with fail
      go_ret
      exact ⟨rfl, HE0.out.trans HE.out⟩
end Go.Proofs.YtldgamgdbneneaaDoor
