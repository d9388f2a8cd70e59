/-
  ChunkSplits: any bytes are cut into chunks as the document says, any lists put together as it says; they stay, and what is told is the caller's own.
-/
import Derived.Test.YtnlappoocffcpaaX00
import Derived.Test.YtnlappoocffcpaaX01
import Derived.Test.YtnlappoocffcpaaX04
namespace Go.Proofs.Ytnlappoocffcpaa
open Go Go.RowKit
def spE (n : Nat) : Int := if n ≤ 640 then 0 else 3
def spL (n : Nat) (bs : List Nat) : List (List Nat) := if n ≤ 640 then splitL bs else []
theorem lsts_nil (w : World) : Lsts w w.heap.size none 0 0 [] := ⟨rfl, Nat.le_refl _, by omega, fun a ha => (by cases ha), fun h => absurd h (by omega), fun _ => rfl⟩
theorem zsplit_any {w : World} (A : Option Addr) (n c : Nat) (bs : List Nat) (hb : By w A n c bs) :
    Calls Try.prog 10 #[.slice A n c] w fun e w' => ∃ A' c' L, e = .returned (.tuple #[.slice A' L.length c', .int .i64 (spE n)]) ∧ Lsts w' w'.heap.size A' L.length c' L ∧ lsOf L = spL n bs ∧ (∃ g, 0 < L.length → A' = some ⟨g, 0, none⟩ ∧ w.heap.size ≤ g ∧ IncL w' w.heap.size g L) ∧ Ext w w' := by
  by_cases hn : n ≤ 640
  · refine (zsplit_yes A n c bs hb hn).mono fun e w' ⟨v, L, he, hrow, hok, hl, hx⟩ => ?_
    obtain ⟨A', c', rfl, hL⟩ := lsts_own hrow hok
    refine ⟨A', c', L, by unfold spE; rw [if_pos hn]; exact he, hL, by unfold spL; rw [if_pos hn]; exact hl, ?_, hx⟩
    rcases hrow.2 with ⟨_, h0⟩ | ⟨g, cap, cur, hv, hbg, _⟩
    · exact ⟨0, fun h => by omega⟩
    · injection hv with hA _ _
      subst hA
      refine ⟨g, fun _ => ⟨rfl, hbg, fun i a ha => ?_, fun a ha => ⟨WrB.of_own (hok a ha).1.2 (Bs.rd (hok a ha).1.1).lt, fun p hp e => ((hok a ha).2 p hp).2.2 (by rw [e]; rfl)⟩⟩⟩
      have hj : i < L.length := (List.getElem?_eq_some_iff.1 ha).1
      rw [hrow.cellAt i (by omega), List.getElem?_map, ha]
      rfl
  · exact (zsplit_no A n c (by omega) w).mono fun e w' ⟨he, hx⟩ => ⟨none, 0, [], by unfold spE; rw [if_neg hn]; exact he, lsts_nil _, by unfold spL; rw [if_neg hn]; rfl, ⟨0, fun h => by cases h⟩, hx⟩
theorem zrsplit_any {w : World} (A : Option Addr) (n c : Nat) (bs : List Nat) (hb : By w A n c bs) :
    Calls Try.prog 11 #[.slice A n c] w fun e w' => ∃ A' c' L, e = .returned (.tuple #[.slice A' L.length c', .int .i64 (spE n)]) ∧ Lsts w' w'.heap.size A' L.length c' L ∧ lsOf L = spL n bs ∧ Ext w w' := by
  by_cases hn : n ≤ 640
  · refine (zrsplit_yes A n c bs hb hn).mono fun e w' ⟨v, L, he, ho, hl, hx⟩ => ?_
    obtain ⟨A', c', rfl, hL⟩ := ho.lsts
    exact ⟨A', c', L, by unfold spE; rw [if_pos hn]; exact he, hL, by unfold spL; rw [if_pos hn]; exact hl, hx⟩
  · exact (zrsplit_no A n c (by omega) w).mono fun e w' ⟨he, hx⟩ => ⟨none, 0, [], by unfold spE; rw [if_neg hn]; exact he, lsts_nil _, by unfold spL; rw [if_neg hn]; rfl, hx ▸ Ext.refl _⟩
set_option maxRecDepth 100000 in
set_option maxHeartbeats 3200000 in
theorem chunkSplits_law (A : Option Addr) (n c : Nat) (l : List Nat) (A2 : Option Addr) (n2 c2 : Nat) (l2 : List Lst) (w : World) (h1 : Bs w w.heap.size A n c l) (h2 : Lsts w w.heap.size A2 n2 c2 l2) :
    Calls Try.prog 3 #[.slice A n c, .slice A2 n2 c2] w fun r' w' => r' = .returned (.bool true) ∧ Below w.heap.size w w' := by
  show Calls Try.prog 3 #[.slice A n c, .slice A2 n2 c2] w fun r' w' => r' = .returned (.bool true) ∧ Ext w w'
  obtain ⟨i0, hi0, hz0, hz1, hz2⟩ := info_parts sl_infoZ
  have HB1 : Hid (By w A n c l) := Lib.hid h1
  have HB2 := Lib.hid h2
  clear h1 h2
  go_enter Try.func3, Try.ntmps3
  by_cases hn : n ≤ 800
  case neg =>
    have hn : (800 : Int) < (n : Int) := by omega
    go_wp2_with fail
    go_ret
    exact ⟨rfl, Ext.refl w⟩
  have hn' : (n : Int) ≤ 800 := by omega
  go_wp2_with fail
  refine (zgreat_of A2 n2 c2 l2 HB2.out).mono ?_
  rintro e w1 ⟨b, rfl, rfl, hgr⟩
  cases b with
  | true =>
    go_wp2_with fail
    go_ret
    exact ⟨rfl, Ext.refl w⟩
  | false =>
    have HGR := Lib.hid (hgr rfl).2
    have hn12 := (hgr rfl).1
    clear hgr
    go_wp2_with fail
    refine (copy_by A l n c w HB1.out (by omega)).mono ?_
    rintro e w1 ⟨A3, c3, rfl, hby, hx, _⟩
    have HX1 : Hid (Ext w w1) := Lib.hid hx
    have HB3 := Lib.hid hby
    clear hby hx
    go_wp2_with fail
    refine (zsplit_any A3 n c3 l HB3.out).mono ?_
    rintro e w2 ⟨A4, c4, L, rfl, hL, hl, ⟨gx, hinc⟩, hx⟩
    have HX2 : Hid (Ext w1 w2) := Lib.hid hx
    have HLS := Lib.hid hL
    have HLL := Lib.hid hl
    have HIN := Lib.hid hinc
    have HLM : Hid (∀ a ∈ L, a.n ≤ 9223372036854775807) := Lib.hid fun a ha => Nat.le_trans (hL.each a ha).cap (hL.each a ha).most
    have hln63 : L.length ≤ 9223372036854775807 := Nat.le_trans hL.cap hL.most
    clear hL hl hinc hx
    go_wp2_with fail
    refine (zrsplit_any A n c l (HB1.out.ext (HX1.out.trans HX2.out))).mono ?_
    rintro e w3 ⟨A5, c5, L5, rfl, hL, hl, hx⟩
    have HX3 : Hid (Ext w1 w3) := Lib.hid (HX2.out.trans hx)
    have HIN := Lib.hid (fun h0 => (HIN.out h0).imp id (And.imp id fun (q : IncL w2 w1.heap.size gx L) => (⟨fun i a ha => ext_of_cell hx (q.row i a ha), fun a ha => ⟨(q.each a ha).1.ext hx, (q.each a ha).2⟩⟩ : IncL w3 w1.heap.size gx L)))
    have HLI := Lib.hid (zlists_same A4 L.length c4 L (HLS.out.ext hx) A5 L5.length c5 L5 hL (HLL.out.trans hl.symm))
    clear hL hl hx HX2 HLS
    go_wp2_with fail
    refine (HLI.out).mono ?_
    rintro e w4 ⟨rfl, hx⟩
    have HX4 : Hid (Ext w1 w4) := Lib.hid (HX3.out.trans hx)
    have HIN4 := Lib.hid (fun h0 => (HIN.out h0).imp id (And.imp id fun (q : IncL w3 w1.heap.size gx L) => (⟨fun i a ha => ext_of_cell hx (q.row i a ha), fun a ha => ⟨(q.each a ha).1.ext hx, (q.each a ha).2⟩⟩ : IncL w4 w1.heap.size gx L)))
    clear hx HX3 HLI HIN HLL
    generalize hln : L.length = ln at *
    go_wp2_with fail
    go_loopw [10] (fun v wr => ∃ i : Nat, i ≤ ln ∧ v = .int .i64 (i : Int) ∧ Hid (0 < ln → A4 = some ⟨gx, 0, none⟩ ∧ w1.heap.size ≤ gx ∧ IncL wr w1.heap.size gx L) ∧ Hid (Ext w1 wr)) (fun v _ => ln - (intOf v).toNat)
    case atStart => exact ⟨0, by omega, rfl, HIN4, HX4⟩
    case round =>
      obtain ⟨i, hi, rfl, HI, HX⟩ := hrel
      by_cases hlt : i < ln
      · obtain ⟨hA4, hgx, hinc⟩ := HI.out (by omega)
        subst hA4
        have hia : i < L.length := by omega
        have ha := List.getElem?_eq_getElem hia
        have hmem := List.getElem_mem hia
        generalize L[i] = a at ha hmem
        have HA := Lib.hid (And.intro ha hmem)
        have HINC := Lib.hid hinc
        have HGX := Lib.hid hgx
        obtain ⟨aA, an, ac, al⟩ := a
        clear hinc ha hmem hgx
        have hlt' : (i : Int) < (ln : Int) := by omega
        go_wp2_with fail
        go_loopw [11] (fun v wr2 => ∃ k : Nat, k ≤ an ∧ v = .int .i64 (k : Int) ∧ Hid (IncL wr2 w1.heap.size gx L) ∧ Hid (Ext w1 wr2)) (fun v _ => an - (intOf v).toNat)
        case atStart => exact ⟨0, by omega, rfl, HINC, HX⟩
        case round =>
          obtain ⟨k, hk, rfl, HINC, HX⟩ := hrel
          have hrow := HINC.out.row i _ HA.out.1
          dsimp only at hrow
          by_cases hka : k < an
          · obtain ⟨q, x, hqA, hqB, hx256, hcell, hfr⟩ := (HINC.out.each _ HA.out.2).1 k hka
            dsimp only at hqA
            subst hqA
            have hka' : (k : Int) < (an : Int) := by omega
            have han := HLM.out _ HA.out.2
            dsimp only at han
            have hy : ((x : Int) + 1) % 256 = (((x + 1) % 256 : Nat) : Int) := by omega
            have HS := Lib.hid (HINC.out.set HA.out.2 hka (y := (x + 1) % 256) (Nat.mod_lt _ (by omega)) rfl)
            have HXS : Hid (Ext w1 (wr.setCell ⟨q, k, none⟩ (.int .u8 (((x + 1) % 256 : Nat) : Int)))) := Lib.hid (Below.trans HX.out (below_of_modZ (mod_cellP wr q k _) hqB HX.out.size))
            have HY := Lib.hid hy
            clear hy
            go_wp2_with fail
            go_roundw
            case rel => exact ⟨k + 1, by omega, by go_num, by rw [HY.out]; exact HS, by rw [HY.out]; exact HXS⟩
            case measure => simp [intOf]; omega
          · obtain rfl : k = an := by omega
            go_wp2_with fail
            go_roundw
            case rel => exact ⟨i + 1, by omega, by go_num, Lib.hid fun _ => ⟨by trivial, HGX.out, HINC.out⟩, HX⟩
            case measure => simp [intOf]; omega
      · obtain rfl : i = ln := by omega
        obtain ⟨wA, hwA⟩ : ∃ x, x = wr := ⟨_, rfl⟩
        subst hwA
        have HWX : Hid (Ext w wA) := Lib.hid (HX1.out.trans HX.out)
        have HL2 := Lib.hid (HB2.out.ext HWX.out)
        have HB13 := Lib.hid (HB1.out.ext HWX.out)
        have HB33 := Lib.hid (HB3.out.ext HX.out)
        clear HI HIN4 HX4 HLM
        go_wp2_with fail
        go_loopw [12, 13] (fun v vi w5 => ∃ (j : Nat) (Lo : List Lst), j ≤ n2 ∧ Lo.length = j ∧ vi = .int .i64 (j : Int) ∧ Hid (OwnL w5 wA.heap.size v Lo) ∧ Hid (lsOf Lo = (lsOf l2).take j) ∧ Hid (Ext wA w5)) (fun _ vi _ => n2 - (intOf vi).toNat)
        case atStart => exact ⟨0, [], by omega, rfl, rfl, Lib.hid (OwnL.nil_ _ _), Lib.hid rfl, Lib.hid (Ext.refl _)⟩
        case round =>
          obtain ⟨j, Lo, hj, hLo, rfl, HO, HLO, HXo⟩ := hrel
          by_cases hjl : j < n2
          · obtain ⟨g, o, a, hA, hg, ha, hby, hcell⟩ := HL2.out.at_ hjl
            subst hA
            have hcell := ext_of_cell HXo.out hcell
            have h200 := HGR.out _ _ ha
            have hCP := copy_by a.A a.l a.n a.c wr (By.ext hby HXo.out) (by omega)
            have htk : (lsOf l2).take (j + 1) = (lsOf l2).take j ++ [a.l] := by rw [List.take_add_one, lsOf_at ha]; rfl
            have HTK := Lib.hid htk
            have hlt256 := (Bs.rd hby).lt
            obtain ⟨aA, an, ac, al⟩ := a
            have HCP := Lib.hid hCP
            have H256 := Lib.hid hlt256
            dsimp only at hcell h200
            have hjl' : (j : Int) < (n2 : Int) := by omega
            clear hby ha hCP htk hlt256
            go_wp2_with fail
            refine (HCP.out).mono ?_
            rintro e w6 ⟨A', c', rfl, hby, hx, hown⟩
            have HX6 := Lib.hid hx
            have HOW := Lib.hid hown
            clear hx hby hown HCP hcell
            go_wp2_with (at_builtin; refine wpList_append_lies _ rfl _ _ 23 rfl wA.heap.size 22 i0 (.slice none 0 0) 1 24 Try.underlying23 hi0 hz0 hz1 hz2 rfl (by decide) _ Lo.length (Lo.map Lst.val) rfl ((HO.out.ext HX6.out).row.alloc _) ⟨w6.heap.size, 0, none⟩ 1 1 [.slice A' an c'] rfl rfl (cell_one_new _ _ _) (by simp [Value.oneCell']) (by omega) (by unfold maxLen; omega) (by omega) (by have := HX6.out.size; have := HXo.out.size; simp; omega) _ rfl ?_)
            intro g2 cap2 w7 hown2 hgrow2 hlies2 _
            rw [← hLo] at hown2
            obtain ⟨hO2, hX2⟩ := HO.out.app (a0 := ⟨A', an, c', al⟩) HXo.out.size HXo.out HX6.out HOW.out H256.out hown2 hgrow2 (hlies2.imp id fun e => e.trans (World.size_alloc _ _).symm)
            rw [hLo] at hO2
            have HO2 := Lib.hid hO2
            have HX2 : Hid (Ext wA w7) := Lib.hid hX2
            have hl2 : lsOf (Lo ++ [⟨A', an, c', al⟩]) = (lsOf l2).take (j + 1) := by
              rw [HTK.out, ← HLO.out]
              unfold lsOf
              rw [List.map_append]
              rfl
            have HLO2 := Lib.hid hl2
            clear hO2 hX2 hl2 hown2 hgrow2 hlies2 HOW HX6
            go_wp2_with fail
            go_roundw
            case rel => exact ⟨j + 1, _, by omega, by rw [List.length_append, List.length_singleton, hLo], by go_num, HO2, HLO2, HX2⟩
            case measure => simp [intOf]; omega
          · obtain ⟨wB, hwB⟩ : ∃ x, x = wr := ⟨_, rfl⟩
            subst hwB
            obtain ⟨A6, c6, hv6, hLs⟩ := HO.out.lsts
            have hjn : j = n2 := by omega
            have hlo : lsOf Lo = lsOf l2 := by
              rw [HLO.out, hjn]
              exact List.take_of_length_le (by unfold lsOf; rw [List.length_map, HB2.out.len]; exact Nat.le_refl _)
            subst hv6
            have hJ := zjoin_own A6 Lo.length c6 Lo hLs
            rw [hlo] at hJ
            have HJ := Lib.hid hJ
            have HLs := Lib.hid hLs
            have HLoE := Lib.hid hlo
            have hnl : Lo.length = n2 := by omega
            rw [hnl] at HJ HLs ⊢
            have hjl' : (n2 : Int) ≤ (j : Int) := by omega
            clear hJ hLs hlo HLO HO
            go_wp2_with fail
            refine (HJ.out).mono ?_
            rintro e w6 ⟨A7, n7, c7, rfl, hby, _, hx, hown⟩
            have HX6 : Hid (Ext wA w6) := Lib.hid (HXo.out.trans hx)
            have HXJ : Hid (Ext wB w6) := Lib.hid hx
            have HW6 := Lib.hid (WrB.of_own hown (Bs.rd hby).lt)
            have HBJ := Lib.hid hby
            clear hby hx hown HJ
            go_wp2_with fail
            refine (zrjoin_of A2 n2 c2 l2 (HL2.out.ext HX6.out)).mono ?_
            rintro e w7 ⟨A8, n8, c8, rfl, hby, hx⟩
            have hs := same_by A7 A8 _ _ n7 n8 c7 c8 w7 (HBJ.out.ext hx) hby
            rw [decide_eq_true rfl] at hs
            have HS := Lib.hid hs
            have HX7 : Hid (Ext wB w7) := Lib.hid (HXJ.out.trans hx)
            have HW7 := Lib.hid (HW6.out.ext hx)
            have hn63 : n7 ≤ 9223372036854775807 := Nat.le_trans HBJ.out.cap HBJ.out.most
            clear hs hby hx HXJ HW6 HBJ HX6
            generalize joinE (lsOf l2) = je at *
            go_wp2_with fail
            refine (HS.out).mono ?_
            rintro e w8 ⟨rfl, hx⟩
            have HX8 : Hid (Ext wB w8) := Lib.hid (HX7.out.trans hx)
            have HW8 := Lib.hid (HW7.out.ext hx)
            clear hx HX7 HW7 HS
            go_wp2_with fail
            go_loopw [18] (fun v w9 => ∃ k : Nat, k ≤ n7 ∧ v = .int .i64 (k : Int) ∧ Hid (WrB w9 wB.heap.size A7 n7) ∧ Hid (Ext wB w9)) (fun v _ => n7 - (intOf v).toNat)
            case atStart => exact ⟨0, by omega, rfl, HW8, HX8⟩
            case round =>
              obtain ⟨k, hk, rfl, HW, HXp⟩ := hrel
              by_cases hka : k < n7
              · have HWK := Lib.hid HW.out
                obtain ⟨q, x, hqA, hqB, hx256, hcell, hfr⟩ := HW.out k hka
                subst hqA
                have hka' : (k : Int) < (n7 : Int) := by omega
                have hy : ((x : Int) + 1) % 256 = (((x + 1) % 256 : Nat) : Int) := by omega
                have HS := Lib.hid (HW.out.set (g := q) (k := k) (y := (x + 1) % 256) (Nat.mod_lt _ (by omega)) (by rw [hcell]; rfl))
                have HXS := Lib.hid (Below.trans HXp.out (below_of_modZ (mod_cellP _ q k (.int .u8 (((x + 1) % 256 : Nat) : Int))) hqB HXp.out.size))
                have HY := Lib.hid hy
                clear hy
                go_wp2_with fail
                go_roundw
                case rel => exact ⟨k + 1, by omega, by go_num, by rw [HY.out]; exact HS, by rw [HY.out]; exact HXS⟩
                case measure => simp [intOf]; omega
              · obtain rfl : k = n7 := by omega
                have hs := same_by A3 A l l n n c3 c _ (HB33.out.ext (HXo.out.trans HXp.out)) (HB13.out.ext (HXo.out.trans HXp.out))
                rw [decide_eq_true (rfl : l = l)] at hs
                have HS := Lib.hid hs
                have HXW : Hid (Ext w _) := Lib.hid (HWX.out.trans (HXo.out.trans HXp.out))
                have HLs9 := Lib.hid (HLs.out.ext HXp.out)
                have HL9 := Lib.hid (HL2.out.ext (HXo.out.trans HXp.out))
                clear hs
                go_wp2_with fail
                refine (HS.out).mono ?_
                rintro e w10 ⟨rfl, hx⟩
                have HLI := Lib.hid (zlists_same A6 n2 c6 Lo (HLs9.out.ext hx) A2 n2 c2 l2 (HL9.out.ext hx) HLoE.out)
                have HX10 : Hid (Ext w w10) := Lib.hid (HXW.out.trans hx)
                clear hx HS
                go_wp2_with fail
                refine (HLI.out).mono ?_
                rintro e w11 ⟨rfl, hx⟩
                have HX11 : Hid (Ext w w11) := Lib.hid (HX10.out.trans hx)
                clear hx
                go_wp2_with fail
                go_ret
                exact ⟨rfl, HX11.out⟩
end Go.Proofs.Ytnlappoocffcpaa
