/-
  DiskPower: power for so many writes and flushes.
-/
import Derived.Test.YtmfbeglidhejkaaKAwake
import Derived.Test.YtmfbeglidhejkaaKDoor
import Derived.Test.YtmfbeglidhejkaaKTornLaw
import Derived.Test.YtmfbeglidhejkaaWMod
import Derived.Test.YtmfbeglidhejkaaPwr
import Derived.Deep.RegionHeld3
namespace Go.Proofs.Ytmfbeglidhejkaa
open Go Go.RowKit

set_option maxRecDepth 100000 in
set_option maxHeartbeats 12800000 in
theorem diskPower_law (z : Int) (A1 : Option Addr) (n1 c1 : Nat) (l1 : List Bool) (A2 : Option Addr) (n2 c2 : Nat) (l2 : List Bool) (w : World) (_ : (Lit.int .i64 z).wf = true) (h1 : Vs w w.heap.size A1 n1 c1 (l1.map .bool)) (h2 : Vs w w.heap.size A2 n2 c2 (l2.map .bool)) :
    Calls Try.prog 9 #[.int .i64 z, .slice A1 n1 c1, .slice A2 n2 c2] w fun e w' => e = .returned (.bool true) ∧ Ext w w' := by
  have HB1 := Lib.hid h1
  have HB2 := Lib.hid h2
  have hn1 : 0 ≤ n1 := Nat.zero_le _
  have hn2 : 0 ≤ n2 := Nat.zero_le _
  obtain ⟨pw, hpw, hwp⟩ := wrap_mod z 61 (by omega) (by omega)
  have hwp : wrap64 ((IntKind.u64.wrap z).tmod 61) = (pw : Int) := hwp
  have hps := PInv.start pw
  have HPS1 := Lib.hid hps.1
  have HPS2 := Lib.hid hps.2
  clear h1 h2 hps
  go_enter Try.func9, Try.ntmps9
  go_wp2_with fail
  refine (kawake_any w).mono ?_
  rintro e w1 ⟨rfl, hx⟩
  have HE := Lib.hid hx
  clear hx
  by_cases hn60 : 60 < n1
  · go_wp2_with fail
    go_ret
    exact ⟨rfl, HE.out⟩
  by_cases hn100 : 100 < n2
  · go_wp2_with fail
    go_ret
    exact ⟨rfl, HE.out⟩
  go_wp2_with fail
  refine (new_pdk 4 _ (by omega) (by omega)).mono ?_
  rintro e w2 ⟨d, rfl, hp, hx⟩
  have HD : Hid (DK w w2 d _ (DM.new 4)) := Lib.hid ⟨hp, fun k hk => Nat.le_trans HE.out.size hk.1, HE.out.trans hx⟩
  clear hp hx
  go_wp2_with fail
  refine (power_pd HD.out.disk (pw : Int) (by omega)).mono ?_
  unfold Outc
  rw [HPS1.out]
  rintro e w3 ⟨rfl, hp, hm⟩
  have HD := Lib.hid (HD.out.step hp hm)
  clear hp hm
  go_wp2_with fail
  refine (power_pd HD.out.disk (-1) (by omega)).mono ?_
  unfold Outc
  rw [setPower_neg (by rw [HPS2.out.up]; simp)]
  rintro e w4 ⟨rfl, hp, hm⟩
  obtain ⟨i0, hi, hz0, hz1, hz2⟩ := info_parts int_info8
  have hP0 := pwr_start (HD.out.step hp hm)
  have HP0 := Lib.hid hP0
  clear hp hm hP0 HD
  go_wp2_with fail
  obtain ⟨L, hL⟩ : ∃ L, L = w4.heap.size + 1 := ⟨_, rfl⟩
  obtain ⟨B, hB⟩ : ∃ B, B = w4.heap.size := ⟨_, rfl⟩
  rw [← hL, ← hB] at HP0 ⊢
  clear hL hB hwp
  go_loopw [11, 10] (fun i v wr => ∃ k : Nat, k ≤ n1 ∧ i = .int .i64 k ∧ ∃ (F : Nat → Prop) (m : DM) (wl : List Nat) (last : Nat → Nat), Hid (Pwr w wr d F m wl last B L v) ∧ Hid (PInv m pw k wl last) ∧ Hid (wl.length ≤ k)) (fun i _ _ => n1 - (intOf i).toNat)
  case atStart => exact ⟨0, Nat.zero_le _, rfl, _, _, _, _, HP0, HPS2, Lib.hid (Nat.le_refl _)⟩
  case round =>
    obtain ⟨k, hkn, rfl, F, m, wl, last, HP, HI, HN⟩ := hrel
    by_cases hlt : k < n1
    · obtain ⟨g, o, b, rfl, hg, hb, hc⟩ := vs_cell HB1.out hlt
      have hcr := (HP.out.dk.bel.cell (p := ⟨g, o + k, none⟩) hg).trans hc
      have HC := Lib.hid hc
      have HG := Lib.hid hg
      have hnl := HN.out
      obtain ⟨Av, cv, hv, hlc⟩ := HP.out.len
      subst hv
      obtain ⟨k1, hk1⟩ : ∃ k1, k1 = k + 1 := ⟨_, rfl⟩
      have hw : IntKind.i64.wrap ((k : Int) + 1) = (k1 : Int) := by rw [IntWalk.i64_in _ (by omega)]; omega
      obtain ⟨q, hq⟩ : ∃ q, k % 4 = q := ⟨_, rfl⟩
      have hq4 : q < 4 := by omega
      have hkm : ((k : Nat) : Int).tmod 4 = (q : Int) := by rw [Int.tmod_eq_emod_of_nonneg (by omega)]; omega
      have HK1 := Lib.hid hk1
      cases b with
      | true =>
        have hfl := HI.out.flush
        rw [← hk1] at hfl
        by_cases hkp : k < pw
        · rw [if_pos hkp, if_pos hkp, if_pos hkp] at hfl
          have HF1 := Lib.hid hfl.1
          have HF2 := Lib.hid hfl.2
          clear hfl hc hb hk1 hq
          go_wp2_with fail
          refine (flush_pd HP.out.dk.disk).mono ?_
          unfold Outc
          rw [HF1.out]
          rintro e w5 ⟨rfl, hp, hm⟩
          have HP5 := Lib.hid (HP.out.step hp hm)
          have hcr5 := (HP5.out.dk.bel.cell (p := ⟨g, o + k, none⟩) HG.out).trans HC.out
          clear hp hm hcr
          go_wp2_with fail
          obtain ⟨F5, m5, hF5⟩ : ∃ F5 m5, Pwr w w5 d F5 m5 wl last B L (.slice Av wl.length cv) ∧ PInv m5 pw k1 [] (lastAll wl last) := ⟨_, _, HP5.out, HF2.out⟩
          have HP6 := Lib.hid hF5.1
          have HI6 := Lib.hid hF5.2
          clear hF5 HP5 HF1 HF2 hcr5
          go_loopw [13] (fun i wr => ∃ j : Nat, j ≤ wl.length ∧ i = .int .i64 j ∧ Hid (Pwr w wr d F5 m5 wl (lastAll (wl.take j) last) B L (.slice Av wl.length cv))) (fun i _ => wl.length - (intOf i).toNat)
          case atStart => exact ⟨0, Nat.zero_le _, rfl, HP6⟩
          case round =>
            obtain ⟨j, hjn, rfl, HPj⟩ := hrel
            by_cases hj : j < wl.length
            · obtain ⟨gv, cv', x, hv, hx, hcx, hgL⟩ := HPj.out.at_ hj
              injection hv with hv1 _ hv2
              subst hv1; subst hv2
              have hx1 := HI.out.small x (List.mem_of_getElem? hx)
              obtain ⟨qx, hqx⟩ : ∃ qx, (x - 1) % 4 = qx := ⟨_, rfl⟩
              obtain ⟨xp, hxp⟩ : ∃ xp, xp = x - 1 := ⟨_, rfl⟩
              have hqx4 : qx < 4 := by omega
              have hxs : IntKind.i64.wrap ((x : Int) - 1) = (xp : Int) := by rw [IntWalk.i64_in _ (by omega)]; omega
              have hxm : ((xp : Nat) : Int).tmod 4 = (qx : Int) := by rw [Int.tmod_eq_emod_of_nonneg (by omega)]; omega
              have hr1 := HPj.out.row.cell hqx4
              have hr2 := HPj.out.row.free qx
              have HTK : Hid (∀ s, lastAll (wl.take (j + 1)) last s = if s = qx then x else lastAll (wl.take j) last s) := Lib.hid fun s => by rw [lastAll_take hx, hqx]
              clear hx hqx hxp hx1
              go_wp2_with fail
              go_region
              have HPk : Hid (Pwr w (wr.drew.setCell ⟨L, qx, none⟩ (.int .i64 (x : Int))) d F5 m5 wl (lastAll (wl.take (j + 1)) last) B L (.slice (some ⟨gv, 0, none⟩) wl.length cv)) := Lib.hid (((HPj.out.ext (Ext.refl wr).drew).put hqx4 x).congr fun s _ => (HTK.out s).symm)
              clear hr1 hr2 hcx
              go_wp2_with fail
              go_roundw
              case rel => exact ⟨j + 1, by omega, by go_num, HPk⟩
              case measure => simp [intOf]; omega
            · obtain rfl : j = wl.length := by omega
              have HPe := Lib.hid (show Pwr w wr d F5 m5 wl (lastAll wl last) B L (.slice Av wl.length cv) from by have := HPj.out; rwa [List.take_length] at this)
              clear HPj
              go_wp2_with fail
              go_roundw
              case rel => exact ⟨k1, by have := HK1.out; omega, rfl, _, _, _, _, Lib.hid HPe.out.reset, HI6, Lib.hid (Nat.zero_le _)⟩
              case measure => have := HK1.out; simp [intOf]; omega
        · rw [if_neg hkp, if_neg hkp, if_neg hkp] at hfl
          have HF1 := Lib.hid hfl.1
          have HF2 := Lib.hid hfl.2
          clear hfl hc hb hk1 hq
          go_wp2_with fail
          refine (flush_pd HP.out.dk.disk).mono ?_
          unfold Outc
          rw [HF1.out]
          rintro e w5 ⟨rfl, hp, hm⟩
          have HP5 := Lib.hid (HP.out.step hp hm)
          clear hp hm hcr
          go_wp2_with fail
          go_roundw
          case rel => exact ⟨k1, by have := HK1.out; omega, rfl, _, _, _, _, HP5, HF2, Lib.hid (by have := HK1.out; omega)⟩
          case measure => have := HK1.out; simp [intOf]; omega
      | false =>
        have hwr := HI.out.write (by omega)
        rw [← hk1, hq] at hwr
        have HK256 : Hid (k1 < 256) := Lib.hid (by omega)
        have HFEW : Hid (m.waits.length ≤ 1000000) := Lib.hid (by rw [HI.out.waits, List.length_map]; omega)
        by_cases hkp : k < pw
        · rw [if_pos hkp, if_pos hkp] at hwr
          have HF1 := Lib.hid hwr.1
          have HF2 := Lib.hid hwr.2
          clear hwr hc hb hk1 hq
          go_wp2_with fail
          refine (sector_n k1 HK256.out _).mono ?_
          rintro e w5 ⟨As, ns, cs, rfl, hown, hx⟩
          have HOF := Lib.hid (HP.out.dk.fresh hown)
          have HBY : Hid (By w5 As ns cs (List.replicate 64 k1)) := Lib.hid (Bs.of_own hown (rep_lt k1 HK256.out))
          have HP5 := Lib.hid (HP.out.ext hx)
          clear hown hx
          go_wp2_with fail
          refine (write_pd HP5.out.dk.disk (q : Int) As ns cs (List.replicate 64 k1) HBY.out HOF.out HFEW.out).mono ?_
          unfold Outc
          rw [HF1.out]
          rintro e w6 ⟨rfl, hp, hm⟩
          have HP6 := Lib.hid (HP5.out.step hp hm)
          have hcr6 := (HP6.out.dk.bel.cell (p := ⟨g, o + k, none⟩) HG.out).trans HC.out
          clear hp hm hcr HBY HOF HP5
          go_wp2_with (at_builtin; refine wpList_append_lies _ rfl _ _ 69 rfl B 3 i0 (.int .i64 0) 1 8 Try.underlying69 hi hz0 hz1 hz2 rfl (by decide) _ _ _ rfl (own_mod (F := fun _ => False) HP6.out.own (Mod.of_ext ((Ext.refl w6).alloc _)) (fun _ _ h => h)) ⟨w6.heap.size, 0, none⟩ 1 1 [.int .i64 (k1 : Int)] rfl rfl ?c1 ?c2 ?c0 ?c3 ?c4 ?c5 _ rfl ?_)
          case c1 =>
            intro j u hj
            match j, hj with
            | 0, hj => simp at hj; subst hj; simp [Addr.add]
          case c2 => intro u hu; simp at hu; subst hu; rfl
          case c0 => decide
          case c3 => unfold maxLen; have := HN.out; omega
          case c4 => have := HN.out; omega
          case c5 => have := HP6.out.row.lt; have := HP6.out.ord; simp; omega
          intro gn cap w7 hown hgr hor _
          have HP7 := Lib.hid (HP6.out.grown _ hown hgr (hor.imp id fun e => e.trans (by simp)))
          clear hown hgr hor hcr6
          go_wp2_with fail
          go_roundw
          case rel => exact ⟨k1, by have := HK1.out; omega, rfl, _, _, _, _, HP7, HF2, Lib.hid (by have := HK1.out; have := HN.out; rw [List.length_append]; show wl.length + 1 ≤ k1; omega)⟩
          case measure => have := HK1.out; simp [intOf]; omega
        · rw [if_neg hkp, if_neg hkp] at hwr
          have HF1 := Lib.hid hwr.1
          have HF2 := Lib.hid hwr.2
          clear hwr hc hb hk1 hq
          go_wp2_with fail
          refine (sector_n k1 HK256.out _).mono ?_
          rintro e w5 ⟨As, ns, cs, rfl, hown, hx⟩
          have HOF := Lib.hid (HP.out.dk.fresh hown)
          have HBY : Hid (By w5 As ns cs (List.replicate 64 k1)) := Lib.hid (Bs.of_own hown (rep_lt k1 HK256.out))
          have HP5 := Lib.hid (HP.out.ext hx)
          clear hown hx
          go_wp2_with fail
          refine (write_pd HP5.out.dk.disk (q : Int) As ns cs (List.replicate 64 k1) HBY.out HOF.out HFEW.out).mono ?_
          unfold Outc
          rw [HF1.out]
          rintro e w6 ⟨rfl, hp, hm⟩
          have HP6 := Lib.hid (HP5.out.step hp hm)
          clear hp hm hcr HBY HOF HP5
          go_wp2_with fail
          go_roundw
          case rel => exact ⟨k1, by have := HK1.out; omega, rfl, _, _, _, _, HP6, HF2, Lib.hid (by have := HK1.out; omega)⟩
          case measure => have := HK1.out; simp [intOf]; omega
    · obtain rfl : k = n1 := by omega
      obtain ⟨Av, cv, hv, hlc⟩ := HP.out.len
      subst hv
      have hup := HI.out.up
      have HUP := Lib.hid hup
      have HWL : Hid (m.waits.length = wl.length) := Lib.hid (by rw [HI.out.waits, List.length_map])
      have hend := HI.out.end_ l2
      have HE1 := Lib.hid hend.1
      have HE2 := Lib.hid hend.2.1
      have HE3 := Lib.hid hend.2.2.1
      have HE4 := Lib.hid hend.2.2.2
      have hnl := HN.out
      clear hup hend
      by_cases hkp : k ≤ pw
      · have HU : Hid (m.up = true) := Lib.hid (by rw [HUP.out]; exact decide_eq_true hkp)
        clear HUP
        go_wp2_with fail
        refine (up_pd HP.out.dk.disk).mono ?_
        rw [HU.out]
        rintro e w5 ⟨rfl, rfl⟩
        go_wp2_with fail
        refine (waits_pd HP.out.dk.disk).mono ?_
        rw [HWL.out]
        rintro e w5 ⟨rfl, rfl⟩
        go_wp2_with fail
        refine (up_pd HP.out.dk.disk).mono ?_
        rw [HU.out]
        rintro e w5 ⟨rfl, rfl⟩
        have HP5 := HP
        clear HU
        go_wp2_with fail
        obtain ⟨F6, hF6⟩ : ∃ F6, Pwr w _ d F6 m wl last B L (.slice Av wl.length cv) := ⟨_, HP5.out⟩
        have HP6 := Lib.hid hF6
        clear hF6 HP5
        go_loopw [14] (fun i wr => ∃ j : Nat, j ≤ wl.length ∧ i = .int .i64 j ∧ Hid (Pwr w wr d F6 m wl (lastAll (keptN (wl.take j) l2) last) B L (.slice Av wl.length cv))) (fun i _ => wl.length - (intOf i).toNat)
        case atStart => exact ⟨0, Nat.zero_le _, rfl, Lib.hid (by have := HP6.out; rw [List.take_zero]; exact this)⟩
        case round =>
          obtain ⟨j, hjn, rfl, HPj⟩ := hrel
          by_cases hjb : j < wl.length ∧ j < n2
          · obtain ⟨hj, hj2⟩ := hjb
            obtain ⟨g, o, b, rfl, hg, hb, hc⟩ := vs_cell HB2.out hj2
            have hcr := (HPj.out.dk.bel.cell (p := ⟨g, o + j, none⟩) hg).trans hc
            obtain ⟨gv, cv', x, hv, hx, hcx, hgL⟩ := HPj.out.at_ hj
            injection hv with hv1 _ hv2
            subst hv1; subst hv2
            have hx1 := HI.out.small x (List.mem_of_getElem? hx)
            obtain ⟨qx, hqx⟩ : ∃ qx, (x - 1) % 4 = qx := ⟨_, rfl⟩
            obtain ⟨xp, hxp⟩ : ∃ xp, xp = x - 1 := ⟨_, rfl⟩
            have hqx4 : qx < 4 := by omega
            have hxs : IntKind.i64.wrap ((x : Int) - 1) = (xp : Int) := by rw [IntWalk.i64_in _ (by omega)]; omega
            have hxm : ((xp : Nat) : Int).tmod 4 = (qx : Int) := by rw [Int.tmod_eq_emod_of_nonneg (by omega)]; omega
            have HTK := Lib.hid (fun s => keptN_take hx l2 last s)
            rw [hqx] at HTK
            cases b with
            | true =>
              have hr1 := HPj.out.row.cell hqx4
              have hr2 := HPj.out.row.free qx
              have HT2 : Hid (∀ s, lastAll (keptN (wl.take (j + 1)) l2) last s = if s = qx then x else lastAll (keptN (wl.take j) l2) last s) := Lib.hid fun s => by
                rw [HTK.out s]
                by_cases e : s = qx
                · rw [if_pos ⟨hb, e⟩, if_pos e]
                · rw [if_neg fun h => e h.2, if_neg e]
              clear hx hqx hxp hx1 hb hc HTK
              go_wp2_with fail
              go_region
              have HPk : Hid (Pwr w (wr.drew.setCell ⟨L, qx, none⟩ (.int .i64 (x : Int))) d F6 m wl (lastAll (keptN (wl.take (j + 1)) l2) last) B L (.slice (some ⟨gv, 0, none⟩) wl.length cv)) := Lib.hid (((HPj.out.ext (Ext.refl wr).drew).put hqx4 x).congr fun s _ => (HT2.out s).symm)
              clear hr1 hr2 hcx hcr
              go_wp2_with fail
              go_roundw
              case rel => exact ⟨j + 1, by omega, by go_num, HPk⟩
              case measure => simp [intOf]; omega
            | false =>
              have HPk : Hid (Pwr w wr d F6 m wl (lastAll (keptN (wl.take (j + 1)) l2) last) B L (.slice (some ⟨gv, 0, none⟩) wl.length cv)) := Lib.hid (HPj.out.congr fun s _ => by rw [HTK.out s, if_neg fun h => by rw [hb] at h; cases h.1])
              clear hx hqx hxp hx1 hb hc hcx HTK
              go_wp2_with fail
              go_roundw
              case rel => exact ⟨j + 1, by omega, by go_num, HPk⟩
              case measure => simp [intOf]; omega
          · have HPe : Hid (Pwr w wr d F6 m wl (lastAll (keptN wl l2) last) B L (.slice Av wl.length cv)) := Lib.hid (by
              have := HPj.out
              rwa [keptN_all l2 wl (by have h2 := HB2.out.len; rw [List.length_map] at h2; omega)] at this)
            have HLT : Hid (∀ s, s < 4 → lastAll (keptN wl l2) last s < 256) := Lib.hid fun s hs => lastAll_lt (fun x hx => by have := HI.out.small x (keptN_mem hx); omega) (HI.out.held_lt hs)
            have h14 : ¬ j < wl.length ∨ (j < wl.length ∧ ¬ j < n2) := by omega
            clear HPj hjb
            rcases h14 with h14 | ⟨h13, h14⟩
            · go_wp2_with fail
              refine (crash_pd HPe.out.dk.disk A2 n2 c2 l2 ((HB2.out.below HPe.out.dk.bel).more HPe.out.dk.bel.size) (HPe.out.dk.vs HB2.out)).mono ?_
              unfold Outc
              rw [HE1.out]
              rintro e w7 ⟨rfl, hp, hm⟩
              have HP7 := Lib.hid (HPe.out.step hp hm)
              clear hp hm
              go_wp2_with fail
              refine (start_pd HP7.out.dk.disk).mono ?_
              unfold Outc
              rw [HE2.out]
              rintro e w8 ⟨rfl, hp, hm⟩
              have HP8 := Lib.hid (HP7.out.step hp hm)
              clear hp hm
              go_wp2_with fail
              refine (flush_pd HP8.out.dk.disk).mono ?_
              unfold Outc
              rw [HE3.out]
              rintro e w9 ⟨rfl, hp, hm⟩
              have HP9 := Lib.hid (HP8.out.step hp hm)
              have HW9 : Hid ((m.crash l2).2.start.2.flush.2.waits.length ≤ 1000000) := Lib.hid (end_few m l2)
              clear hp hm HPe HP7 HP8
              go_wp2_with fail
              go_loopw [15] (fun i wq => ∃ s : Nat, s ≤ 4 ∧ i = .int .i64 s ∧ Hid (Ext w9 wq)) (fun i _ => 4 - (intOf i).toNat)
              case atStart => exact ⟨0, Nat.zero_le _, rfl, Lib.hid (Ext.refl _)⟩
              case round =>
                obtain ⟨s, hs4, rfl, HQ⟩ := hrel
                by_cases hs : s < 4
                · have hread := HE4.out s hs
                  have hcell := (HP9.out.row.ext HQ.out).cell hs
                  have hle := HLT.out s hs
                  revert hread hcell hle
                  generalize lastAll (keptN wl l2) last s = x
                  intro hread hcell hle
                  have hu8 : IntKind.u8.wrap (x : Int) = (x : Int) := by rw [IntKind.wrap_u8]; omega
                  have HRD := Lib.hid (decide_eq_true hread)
                  have HDq := Lib.hid (HP9.out.dk.ext HQ.out)
                  have HXX := Lib.hid hle
                  clear hread hle
                  go_wp2_with fail
                  refine (reads_of HDq.out.disk (s : Int) x HXX.out HW9.out).mono ?_
                  rw [HRD.out]
                  rintro e wz ⟨rfl, hx⟩
                  have HZ := Lib.hid (HQ.out.trans hx)
                  clear hx hcell hu8
                  go_wp2_with fail
                  go_roundw
                  case rel => exact ⟨s + 1, by omega, by go_num, HZ⟩
                  case measure => simp [intOf]; omega
                · go_wp2_with fail
                  go_ret
                  exact ⟨rfl, HP9.out.dk.bel.trans HQ.out⟩
            · go_wp2_with fail
              refine (crash_pd HPe.out.dk.disk A2 n2 c2 l2 ((HB2.out.below HPe.out.dk.bel).more HPe.out.dk.bel.size) (HPe.out.dk.vs HB2.out)).mono ?_
              unfold Outc
              rw [HE1.out]
              rintro e w7 ⟨rfl, hp, hm⟩
              have HP7 := Lib.hid (HPe.out.step hp hm)
              clear hp hm
              go_wp2_with fail
              refine (start_pd HP7.out.dk.disk).mono ?_
              unfold Outc
              rw [HE2.out]
              rintro e w8 ⟨rfl, hp, hm⟩
              have HP8 := Lib.hid (HP7.out.step hp hm)
              clear hp hm
              go_wp2_with fail
              refine (flush_pd HP8.out.dk.disk).mono ?_
              unfold Outc
              rw [HE3.out]
              rintro e w9 ⟨rfl, hp, hm⟩
              have HP9 := Lib.hid (HP8.out.step hp hm)
              have HW9 : Hid ((m.crash l2).2.start.2.flush.2.waits.length ≤ 1000000) := Lib.hid (end_few m l2)
              clear hp hm HPe HP7 HP8
              go_wp2_with fail
              go_loopw [15] (fun i wq => ∃ s : Nat, s ≤ 4 ∧ i = .int .i64 s ∧ Hid (Ext w9 wq)) (fun i _ => 4 - (intOf i).toNat)
              case atStart => exact ⟨0, Nat.zero_le _, rfl, Lib.hid (Ext.refl _)⟩
              case round =>
                obtain ⟨s, hs4, rfl, HQ⟩ := hrel
                by_cases hs : s < 4
                · have hread := HE4.out s hs
                  have hcell := (HP9.out.row.ext HQ.out).cell hs
                  have hle := HLT.out s hs
                  revert hread hcell hle
                  generalize lastAll (keptN wl l2) last s = x
                  intro hread hcell hle
                  have hu8 : IntKind.u8.wrap (x : Int) = (x : Int) := by rw [IntKind.wrap_u8]; omega
                  have HRD := Lib.hid (decide_eq_true hread)
                  have HDq := Lib.hid (HP9.out.dk.ext HQ.out)
                  have HXX := Lib.hid hle
                  clear hread hle
                  go_wp2_with fail
                  refine (reads_of HDq.out.disk (s : Int) x HXX.out HW9.out).mono ?_
                  rw [HRD.out]
                  rintro e wz ⟨rfl, hx⟩
                  have HZ := Lib.hid (HQ.out.trans hx)
                  clear hx hcell hu8
                  go_wp2_with fail
                  go_roundw
                  case rel => exact ⟨s + 1, by omega, by go_num, HZ⟩
                  case measure => simp [intOf]; omega
                · go_wp2_with fail
                  go_ret
                  exact ⟨rfl, HP9.out.dk.bel.trans HQ.out⟩
      · have HU : Hid (m.up = false) := Lib.hid (by rw [HUP.out]; exact decide_eq_false hkp)
        clear HUP
        go_wp2_with fail
        refine (up_pd HP.out.dk.disk).mono ?_
        rw [HU.out]
        rintro e w5 ⟨rfl, rfl⟩
        go_wp2_with fail
        refine (waits_pd HP.out.dk.disk).mono ?_
        rw [HWL.out]
        rintro e w5 ⟨rfl, rfl⟩
        go_wp2_with fail
        refine (up_pd HP.out.dk.disk).mono ?_
        rw [HU.out]
        rintro e w5 ⟨rfl, rfl⟩
        go_wp2_with fail
        refine (start_pd HP.out.dk.disk).mono ?_
        unfold Outc
        rw [start_no HI.out.down]
        rintro e w5 ⟨rfl, hp, hm⟩
        have HP4 := Lib.hid (HP.out.step hp hm)
        clear hp hm
        go_wp2_with fail
        refine (power_pd HP4.out.dk.disk 1 (by omega)).mono ?_
        unfold Outc
        rw [setPower_no HU.out]
        rintro e w6 ⟨rfl, hp, hm⟩
        have HP5 := Lib.hid (HP4.out.step hp hm)
        clear hp hm HP4 HU
        go_wp2_with fail
        obtain ⟨F6, hF6⟩ : ∃ F6, Pwr w _ d F6 m wl last B L (.slice Av wl.length cv) := ⟨_, HP5.out⟩
        have HP6 := Lib.hid hF6
        clear hF6 HP5
        go_loopw [14] (fun i wr => ∃ j : Nat, j ≤ wl.length ∧ i = .int .i64 j ∧ Hid (Pwr w wr d F6 m wl (lastAll (keptN (wl.take j) l2) last) B L (.slice Av wl.length cv))) (fun i _ => wl.length - (intOf i).toNat)
        case atStart => exact ⟨0, Nat.zero_le _, rfl, Lib.hid (by have := HP6.out; rw [List.take_zero]; exact this)⟩
        case round =>
          obtain ⟨j, hjn, rfl, HPj⟩ := hrel
          by_cases hjb : j < wl.length ∧ j < n2
          · obtain ⟨hj, hj2⟩ := hjb
            obtain ⟨g, o, b, rfl, hg, hb, hc⟩ := vs_cell HB2.out hj2
            have hcr := (HPj.out.dk.bel.cell (p := ⟨g, o + j, none⟩) hg).trans hc
            obtain ⟨gv, cv', x, hv, hx, hcx, hgL⟩ := HPj.out.at_ hj
            injection hv with hv1 _ hv2
            subst hv1; subst hv2
            have hx1 := HI.out.small x (List.mem_of_getElem? hx)
            obtain ⟨qx, hqx⟩ : ∃ qx, (x - 1) % 4 = qx := ⟨_, rfl⟩
            obtain ⟨xp, hxp⟩ : ∃ xp, xp = x - 1 := ⟨_, rfl⟩
            have hqx4 : qx < 4 := by omega
            have hxs : IntKind.i64.wrap ((x : Int) - 1) = (xp : Int) := by rw [IntWalk.i64_in _ (by omega)]; omega
            have hxm : ((xp : Nat) : Int).tmod 4 = (qx : Int) := by rw [Int.tmod_eq_emod_of_nonneg (by omega)]; omega
            have HTK := Lib.hid (fun s => keptN_take hx l2 last s)
            rw [hqx] at HTK
            cases b with
            | true =>
              have hr1 := HPj.out.row.cell hqx4
              have hr2 := HPj.out.row.free qx
              have HT2 : Hid (∀ s, lastAll (keptN (wl.take (j + 1)) l2) last s = if s = qx then x else lastAll (keptN (wl.take j) l2) last s) := Lib.hid fun s => by
                rw [HTK.out s]
                by_cases e : s = qx
                · rw [if_pos ⟨hb, e⟩, if_pos e]
                · rw [if_neg fun h => e h.2, if_neg e]
              clear hx hqx hxp hx1 hb hc HTK
              go_wp2_with fail
              go_region
              have HPk : Hid (Pwr w (wr.drew.setCell ⟨L, qx, none⟩ (.int .i64 (x : Int))) d F6 m wl (lastAll (keptN (wl.take (j + 1)) l2) last) B L (.slice (some ⟨gv, 0, none⟩) wl.length cv)) := Lib.hid (((HPj.out.ext (Ext.refl wr).drew).put hqx4 x).congr fun s _ => (HT2.out s).symm)
              clear hr1 hr2 hcx hcr
              go_wp2_with fail
              go_roundw
              case rel => exact ⟨j + 1, by omega, by go_num, HPk⟩
              case measure => simp [intOf]; omega
            | false =>
              have HPk : Hid (Pwr w wr d F6 m wl (lastAll (keptN (wl.take (j + 1)) l2) last) B L (.slice (some ⟨gv, 0, none⟩) wl.length cv)) := Lib.hid (HPj.out.congr fun s _ => by rw [HTK.out s, if_neg fun h => by rw [hb] at h; cases h.1])
              clear hx hqx hxp hx1 hb hc hcx HTK
              go_wp2_with fail
              go_roundw
              case rel => exact ⟨j + 1, by omega, by go_num, HPk⟩
              case measure => simp [intOf]; omega
          · have HPe : Hid (Pwr w wr d F6 m wl (lastAll (keptN wl l2) last) B L (.slice Av wl.length cv)) := Lib.hid (by
              have := HPj.out
              rwa [keptN_all l2 wl (by have h2 := HB2.out.len; rw [List.length_map] at h2; omega)] at this)
            have HLT : Hid (∀ s, s < 4 → lastAll (keptN wl l2) last s < 256) := Lib.hid fun s hs => lastAll_lt (fun x hx => by have := HI.out.small x (keptN_mem hx); omega) (HI.out.held_lt hs)
            have h14 : ¬ j < wl.length ∨ (j < wl.length ∧ ¬ j < n2) := by omega
            clear HPj hjb
            rcases h14 with h14 | ⟨h13, h14⟩
            · go_wp2_with fail
              refine (crash_pd HPe.out.dk.disk A2 n2 c2 l2 ((HB2.out.below HPe.out.dk.bel).more HPe.out.dk.bel.size) (HPe.out.dk.vs HB2.out)).mono ?_
              unfold Outc
              rw [HE1.out]
              rintro e w7 ⟨rfl, hp, hm⟩
              have HP7 := Lib.hid (HPe.out.step hp hm)
              clear hp hm
              go_wp2_with fail
              refine (start_pd HP7.out.dk.disk).mono ?_
              unfold Outc
              rw [HE2.out]
              rintro e w8 ⟨rfl, hp, hm⟩
              have HP8 := Lib.hid (HP7.out.step hp hm)
              clear hp hm
              go_wp2_with fail
              refine (flush_pd HP8.out.dk.disk).mono ?_
              unfold Outc
              rw [HE3.out]
              rintro e w9 ⟨rfl, hp, hm⟩
              have HP9 := Lib.hid (HP8.out.step hp hm)
              have HW9 : Hid ((m.crash l2).2.start.2.flush.2.waits.length ≤ 1000000) := Lib.hid (end_few m l2)
              clear hp hm HPe HP7 HP8
              go_wp2_with fail
              go_loopw [15] (fun i wq => ∃ s : Nat, s ≤ 4 ∧ i = .int .i64 s ∧ Hid (Ext w9 wq)) (fun i _ => 4 - (intOf i).toNat)
              case atStart => exact ⟨0, Nat.zero_le _, rfl, Lib.hid (Ext.refl _)⟩
              case round =>
                obtain ⟨s, hs4, rfl, HQ⟩ := hrel
                by_cases hs : s < 4
                · have hread := HE4.out s hs
                  have hcell := (HP9.out.row.ext HQ.out).cell hs
                  have hle := HLT.out s hs
                  revert hread hcell hle
                  generalize lastAll (keptN wl l2) last s = x
                  intro hread hcell hle
                  have hu8 : IntKind.u8.wrap (x : Int) = (x : Int) := by rw [IntKind.wrap_u8]; omega
                  have HRD := Lib.hid (decide_eq_true hread)
                  have HDq := Lib.hid (HP9.out.dk.ext HQ.out)
                  have HXX := Lib.hid hle
                  clear hread hle
                  go_wp2_with fail
                  refine (reads_of HDq.out.disk (s : Int) x HXX.out HW9.out).mono ?_
                  rw [HRD.out]
                  rintro e wz ⟨rfl, hx⟩
                  have HZ := Lib.hid (HQ.out.trans hx)
                  clear hx hcell hu8
                  go_wp2_with fail
                  go_roundw
                  case rel => exact ⟨s + 1, by omega, by go_num, HZ⟩
                  case measure => simp [intOf]; omega
                · go_wp2_with fail
                  go_ret
                  exact ⟨rfl, HP9.out.dk.bel.trans HQ.out⟩
            · go_wp2_with fail
              refine (crash_pd HPe.out.dk.disk A2 n2 c2 l2 ((HB2.out.below HPe.out.dk.bel).more HPe.out.dk.bel.size) (HPe.out.dk.vs HB2.out)).mono ?_
              unfold Outc
              rw [HE1.out]
              rintro e w7 ⟨rfl, hp, hm⟩
              have HP7 := Lib.hid (HPe.out.step hp hm)
              clear hp hm
              go_wp2_with fail
              refine (start_pd HP7.out.dk.disk).mono ?_
              unfold Outc
              rw [HE2.out]
              rintro e w8 ⟨rfl, hp, hm⟩
              have HP8 := Lib.hid (HP7.out.step hp hm)
              clear hp hm
              go_wp2_with fail
              refine (flush_pd HP8.out.dk.disk).mono ?_
              unfold Outc
              rw [HE3.out]
              rintro e w9 ⟨rfl, hp, hm⟩
              have HP9 := Lib.hid (HP8.out.step hp hm)
              have HW9 : Hid ((m.crash l2).2.start.2.flush.2.waits.length ≤ 1000000) := Lib.hid (end_few m l2)
              clear hp hm HPe HP7 HP8
              go_wp2_with fail
              go_loopw [15] (fun i wq => ∃ s : Nat, s ≤ 4 ∧ i = .int .i64 s ∧ Hid (Ext w9 wq)) (fun i _ => 4 - (intOf i).toNat)
              case atStart => exact ⟨0, Nat.zero_le _, rfl, Lib.hid (Ext.refl _)⟩
              case round =>
                obtain ⟨s, hs4, rfl, HQ⟩ := hrel
                by_cases hs : s < 4
                · have hread := HE4.out s hs
                  have hcell := (HP9.out.row.ext HQ.out).cell hs
                  have hle := HLT.out s hs
                  revert hread hcell hle
                  generalize lastAll (keptN wl l2) last s = x
                  intro hread hcell hle
                  have hu8 : IntKind.u8.wrap (x : Int) = (x : Int) := by rw [IntKind.wrap_u8]; omega
                  have HRD := Lib.hid (decide_eq_true hread)
                  have HDq := Lib.hid (HP9.out.dk.ext HQ.out)
                  have HXX := Lib.hid hle
                  clear hread hle
                  go_wp2_with fail
                  refine (reads_of HDq.out.disk (s : Int) x HXX.out HW9.out).mono ?_
                  rw [HRD.out]
                  rintro e wz ⟨rfl, hx⟩
                  have HZ := Lib.hid (HQ.out.trans hx)
                  clear hx hcell hu8
                  go_wp2_with fail
                  go_roundw
                  case rel => exact ⟨s + 1, by omega, by go_num, HZ⟩
                  case measure => simp [intOf]; omega
                · go_wp2_with fail
                  go_ret
                  exact ⟨rfl, HP9.out.dk.bel.trans HQ.out⟩
end Go.Proofs.Ytmfbeglidhejkaa
