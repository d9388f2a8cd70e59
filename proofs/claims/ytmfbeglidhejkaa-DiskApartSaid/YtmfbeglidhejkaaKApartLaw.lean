/-
  DiskApart: a fault at one sector changes no other, and nothing that is meant.
-/
import Derived.Test.YtmfbeglidhejkaaKAwake
import Derived.Test.YtmfbeglidhejkaaKDoor
import Derived.Test.YtmfbeglidhejkaaKGreat
import Derived.Test.YtmfbeglidhejkaaDDown
import Derived.Test.YtmfbeglidhejkaaWMod
import Derived.Test.YtmfbeglidhejkaaRow4s
import Derived.Test.YtmfbeglidhejkaaApart
import Derived.Deep.RegionHeld3
namespace Go.Proofs.Ytmfbeglidhejkaa
open Go Go.RowKit

set_option maxRecDepth 100000 in
set_option maxHeartbeats 12800000 in
theorem diskApart_law (A : Option Addr) (n c : Nat) (l : List Act5) (x z1 z2 : Int) (w : World) (ha : Acts w w.heap.size A n c l) (hx : (Lit.int .u8 x).wf = true) (_ : (Lit.int .i64 z1).wf = true) (_ : (Lit.int .i64 z2).wf = true) :
    Calls Try.prog 7 #[.slice A n c, .int .u8 x, .int .i64 z1, .int .i64 z2] w fun e w' => e = .returned (.bool true) ∧ Ext w w' := by
  have HA := Lib.hid ha
  have hn : 0 ≤ n := Nat.zero_le _
  obtain ⟨p, hp4, hwp⟩ := wrap_mod z1 4 (by omega) (by omega)
  have hwp : wrap64 ((IntKind.u64.wrap z1).tmod 4) = (p : Int) := hwp
  obtain ⟨q, hq4, hwq⟩ := wrap_mod z2 4 (by omega) (by omega)
  have hwq : wrap64 ((IntKind.u64.wrap z2).tmod 4) = (q : Int) := hwq
  have hx8 := bounds_u8 hx
  obtain ⟨y, rfl⟩ : ∃ y : Nat, x = (y : Int) := ⟨x.toNat, by omega⟩
  obtain ⟨r, hr⟩ : ∃ r, y % 3 = r := ⟨_, rfl⟩
  have hr3 : r < 3 := by omega
  have hrm : ((y : Nat) : Int).tmod 3 = (r : Int) := by rw [Int.tmod_eq_emod_of_nonneg (by omega)]; omega
  obtain ⟨kd, hkd⟩ : ∃ kd, kd = 3 + r := ⟨_, rfl⟩
  have hwk : IntKind.u8.wrap (3 + (r : Int)) = (kd : Int) := by rw [IntKind.wrap_u8]; omega
  have HK3 : Hid (kd = 3 ∨ kd = 4 ∨ kd = 5) := Lib.hid (by omega)
  have HP4 := Lib.hid hp4
  have HQ4 := Lib.hid hq4
  clear ha hx hx8 hr hr3 hkd hp4 hq4
  go_enter Try.func7, Try.ntmps7
  go_wp2_with fail
  refine (kawake_any w).mono ?_
  rintro e w1 ⟨rfl, hx⟩
  have HE := Lib.hid hx
  clear hx
  go_wp2_with fail
  refine (great_of A n c l ((HA.out.below HE.out).more HE.out.size)).mono ?_
  rintro e w1' ⟨b, rfl, rfl, hg⟩
  cases b with
  | true =>
    go_wp2_with fail
    go_ret
    exact ⟨rfl, HE.out⟩
  | false =>
    have HG := Lib.hid (hg rfl)
    have hn120 : n ≤ 120 := (hg rfl).1
    clear hg
    go_wp2_with fail
    refine (new_pdk 4 _ (by omega) (by omega)).mono ?_
    rintro e w2 ⟨d, rfl, hp, hx⟩
    have HD : Hid (DK w w2 d _ (DM.new 4)) := Lib.hid ⟨hp, fun k hk => Nat.le_trans HE.out.size hk.1, HE.out.trans hx⟩
    clear hp hx
    go_wp2_with fail
    go_loopw [11] (fun i wr => ∃ k : Nat, k ≤ n ∧ i = .int .i64 k ∧ ∃ (F : Nat → Prop) (m : DM), Hid (DK w wr d F m) ∧ Hid (WInv m k)) (fun i _ => n - (intOf i).toNat)
    case atStart => exact ⟨0, Nat.zero_le _, rfl, _, _, HD, Lib.hid WInv.new⟩
    case round =>
      obtain ⟨k, hkn, rfl, F, m3, HD3, HW3⟩ := hrel
      by_cases hlt : k < n
      · obtain ⟨g, o, a, rfl, hg, hal, hok, h0, h1, h2, h3, h4⟩ := HA.out.at_ hlt
        have hc0 := (HD3.out.bel.cell (p := ⟨g, o + k * 5, none⟩) hg).trans h0
        have hc1 := (HD3.out.bel.cell (p := ⟨g, o + k * 5 + 1, none⟩) hg).trans h1
        have hc2 := (HD3.out.bel.cell (p := ⟨g, o + k * 5 + 2, none⟩) hg).trans h2
        have hc3 := (HD3.out.bel.cell (p := ⟨g, o + k * 5 + 3, none⟩) hg).trans h3
        have hc4 := (HD3.out.bel.cell (p := ⟨g, o + k * 5 + 4, none⟩) hg).trans h4
        have HDO := Lib.hid (do_dk HD3.out a hok (HG.out.2 a (List.mem_of_getElem? hal)).1 (by have := HW3.out.few; have := HG.out.1; omega))
        clear h0 h1 h2 h3 h4 hal hok
        go_wp2_with fail
        refine HDO.out.mono ?_
        rintro e w4 ⟨rfl, hd⟩
        have HD4 := Lib.hid hd
        clear hd hc0 hc1 hc2 hc3 hc4
        go_wp2_with fail
        go_roundw
        case rel => exact ⟨k + 1, by omega, by go_num, _, _, HD4, Lib.hid (HW3.out.act _ _ _ _ _)⟩
        case measure => simp [intOf]; omega
      · by_cases hup : m3.up = true
        · have HU := Lib.hid hup
          clear hup
          go_wp2_with fail
          refine (up_pd HD3.out.disk).mono ?_
          rw [HU.out]
          rintro e w4' ⟨rfl, rfl⟩
          have HD4 := HD3
          have HW4 := HW3
          clear HU
          go_wp2_with fail
          refine (start_pd HD4.out.disk).mono ?_
          unfold Outc
          rintro e w5 ⟨rfl, hp, hm⟩
          obtain ⟨F5, m5, hD5, hW5⟩ : ∃ F5 m5, DK w w5 d F5 m5 ∧ WInv m5 k := ⟨_, _, HD4.out.step hp hm, WInv.started HW4.out⟩
          obtain ⟨O, hO⟩ : ∃ O : Obj, O = .cells #[.int .u8 (kd : Int), .int .i64 (p : Int), .int .i64 (q : Int), .slice none 0 0, .slice none 0 0] 36 (0, 0) := ⟨_, rfl⟩
          have hA0 := apt_start hD5 O
          have HO := Lib.hid hO
          have HW5 := Lib.hid hW5
          have HFEW : Hid (m5.waits.length ≤ 1000) := Lib.hid (by have := hW5.few; omega)
          have hFA := fun (s : Nat) hs => fault_apart (m := m5) kd p q s HK3.out (by rw [hW5.four]; exact HP4.out) (by rw [hW5.four]; exact HQ4.out) hs
          have HSZ : Hid ((m5.act kd (p : Int) (q : Int) [] []).2.size = m5.size) := Lib.hid (DM.act_size _ _ _ _ _)
          have HFD := fun (w : World) (F : Nat → Prop) (h : PDisk w d F m5) => fault_do h kd p q (by have := HK3.out; omega) (by have := HP4.out; omega) (by have := HQ4.out; omega) HFEW.out
          obtain ⟨mf, hmf⟩ : ∃ mf, (m5.act kd (p : Int) (q : Int) [] []).2 = mf := ⟨_, rfl⟩
          have HFD1 := Lib.hid HFD
          have HFA := Lib.hid hFA
          rw [hO] at hA0
          have HA0 := Lib.hid hA0
          clear hp hm hD5 hW5 HD4 HW4 hA0 hO HO hFA HFD hmf mf
          go_wp2_with fail
          obtain ⟨B, hB⟩ : ∃ B, B = w5.heap.size := ⟨_, rfl⟩
          rw [← hB] at HA0 ⊢
          rw [hwp, hwq]
          clear hB
          go_loopw [15] (fun i wr => ∃ j : Nat, j ≤ 4 ∧ i = .int .i64 j ∧ ∃ f g : Nat → Option Addr × Nat, Hid (Apt w wr d F5 m5 B (.cells #[.int .u8 (kd : Int), .int .i64 (p : Int), .int .i64 (q : Int), .slice none 0 0, .slice none 0 0] 36 (0, 0)) f g j j)) (fun i _ => 4 - (intOf i).toNat)
          case atStart => exact ⟨0, Nat.zero_le _, rfl, _, _, HA0⟩
          case round =>
            obtain ⟨j, hj4, rfl, f, g, HAP⟩ := hrel
            by_cases hj : j < 4
            · go_wp2_with fail
              refine (read_pd HAP.out.dk.disk (j : Int) (by have := HFEW.out; omega)).mono ?_
              rintro e w6 ⟨A6, n6, rfl, hnw, hx⟩
              have HT := Lib.hid (Tol.of hnw HAP.out.gv)
              have HAP1 := Lib.hid (HAP.out.ext hx)
              have hc1 := HAP1.out.row1.cell hj
              have hf1 := HAP1.out.row1.free j
              clear hnw hx
              go_wp2_with fail
              have HAP2 := Lib.hid (HAP1.out.put1 hj HT.out)
              clear hc1 hf1 HT
              refine (meant_pd HAP2.out.dk.disk (j : Int)).mono ?_
              rintro e w7 ⟨A7, n7, rfl, hnw, hx⟩
              have HT := Lib.hid (Tol.of hnw HAP2.out.gv)
              have HAP3 := Lib.hid (HAP2.out.ext hx)
              have hc2 := HAP3.out.row2.cell hj
              have hf2 := HAP3.out.row2.free j
              clear hnw hx
              go_wp2_with fail
              have HAP4 := Lib.hid (HAP3.out.put2 hj HT.out)
              clear hc2 hf2 HT
              go_roundw
              case rel => first | exact ⟨j + 1, by omega, by go_num, _, _, HAP4⟩ | ((repeat apply Exists.intro); exact ⟨⟨j + 1, by omega, by go_num, _, _, HAP4⟩, rfl⟩)
              case measure => simp [intOf]; omega
            · obtain rfl : j = 4 := by omega
              clear hj hj4
              go_wp2_with fail
              refine (waits_pd HAP.out.dk.disk).mono ?_
              rintro e w8 ⟨rfl, rfl⟩
              have hcs := (cells5 HAP.out.act).1
              obtain ⟨h0, h1, h2, h3, h4⟩ := hcs
              go_wp2_with fail
              refine (HFD1.out _ _ HAP.out.dk.disk).mono ?_
              unfold Outc
              rw [(HFA.out _ (Nat.succ_ne_self _)).1]
              rintro e w9 ⟨rfl, hp, hm⟩
              obtain ⟨FG, hFG⟩ : ∃ FG : Nat → Prop, Apd w w9 d FG m5 (m5.act kd (p : Int) (q : Int) [] []).2 B (.cells #[.int .u8 (kd : Int), .int .i64 (p : Int), .int .i64 (q : Int), .slice none 0 0, .slice none 0 0] 36 (0, 0)) f g := ⟨_, HAP.out.fault hp hm⟩
              have HAD := Lib.hid hFG
              clear hFG
              clear h0 h1 h2 h3 h4 hp hm
              go_wp2_with fail
              refine (waits_pd HAD.out.dk.disk).mono ?_
              rw [(HFA.out _ (Nat.succ_ne_self _)).2.1]
              rintro e w10 ⟨rfl, rfl⟩
              have hcs := (cells5 HAD.out.act).1
              obtain ⟨h0, h1, h2, h3, h4⟩ := hcs
              clear h3 h4
              by_cases h5 : kd = 5
              · have hit : (if kd = 5 then q else p) = q := if_pos h5
                rw [hit] at HFA
                have g5 : ((kd : Int) == 5) = true := by rw [h5]; rfl
                clear hit h5
                go_wp2_with fail
                clear h0 h1 h2 g5
                go_loopw [18] (fun i wr => ∃ j : Nat, j ≤ 4 ∧ i = .int .i64 j ∧ Hid (Apd w wr d FG m5 (m5.act kd (p : Int) (q : Int) [] []).2 B (.cells #[.int .u8 (kd : Int), .int .i64 (p : Int), .int .i64 (q : Int), .slice none 0 0, .slice none 0 0] 36 (0, 0)) f g)) (fun i _ => 4 - (intOf i).toNat)
                case atStart => exact ⟨0, Nat.zero_le _, rfl, HAD⟩
                case round =>
                  obtain ⟨j, hj4, rfl, HAQ⟩ := hrel
                  by_cases hj : j < 4
                  · have HM : Hid ((m5.act kd (p : Int) (q : Int) [] []).2.means (j : Int) = m5.means (j : Int)) := Lib.hid (means_of HSZ.out (HFA.out _ (Nat.succ_ne_self _)).2.2.1 _)
                    have HM0 := Lib.hid (means_zero HW5.out.four hj)
                    have HWF : Hid ((m5.act kd (p : Int) (q : Int) [] []).2.waits.length ≤ 1000000) := Lib.hid (by rw [(HFA.out _ (Nat.succ_ne_self _)).2.1]; have := HFEW.out; omega)
                    by_cases hjh : j = q
                    · subst hjh
                      have g6 : ((j : Int) == (j : Int)) = true := by simp
                      go_wp2_with fail
                      refine (read_pd HAQ.out.dk.disk (j : Int) HWF.out).mono ?_
                      rintro e w11 ⟨A11, n11, rfl, hnw, hx⟩
                      have HA1 := Lib.hid (HAQ.out.ext hx)
                      clear hnw hx
                      go_wp2_with fail
                      refine (meant_pd HA1.out.dk.disk (j : Int)).mono ?_
                      rw [HM.out, HM0.out]
                      rintro e w12 ⟨A12, n12, rfl, hnw, hx⟩
                      have HA2 := Lib.hid (HA1.out.ext hx)
                      have HN12 := Lib.hid hnw.by
                      have HT2 := Lib.hid (HA2.out.told2 j hj).by
                      have hc2 := HA2.out.row2.cell hj
                      clear hnw hx
                      go_wp2_with fail
                      refine (same_by A12 _ _ _ n12 _ n12 _ _ HN12.out HT2.out).mono ?_
                      rw [decide_eq_true rfl]
                      rintro e w13 ⟨rfl, hx⟩
                      have HA3 := Lib.hid (HA2.out.ext hx)
                      clear hx hc2
                      go_wp2_with fail
                      go_roundw
                      case rel => exact ⟨j + 1, by omega, by go_num, HA3⟩
                      case measure => simp [intOf]; omega
                    · have g6 : ((j : Int) == (q : Int)) = false := by rw [beq_eq_false_iff_ne]; omega
                      have g7 : ¬ ((j : Int) = (q : Int)) := by omega
                      have HRD := Lib.hid (HFA.out j hjh).2.2.2
                      clear hjh
                      go_wp2_with fail
                      refine (read_pd HAQ.out.dk.disk (j : Int) HWF.out).mono ?_
                      rw [HRD.out]
                      rintro e w11 ⟨A11, n11, rfl, hnw, hx⟩
                      have HA1 := Lib.hid (HAQ.out.ext hx)
                      have HN11 := Lib.hid hnw.by
                      clear hnw hx
                      go_wp2_with fail
                      refine (meant_pd HA1.out.dk.disk (j : Int)).mono ?_
                      rw [HM.out, HM0.out]
                      rintro e w12 ⟨A12, n12, rfl, hnw, hx⟩
                      have HA2 := Lib.hid (HA1.out.ext hx)
                      have HN11 := Lib.hid (HN11.out.ext hx)
                      have HN12 := Lib.hid hnw.by
                      have HT2 := Lib.hid (HA2.out.told2 j hj).by
                      have hc2 := HA2.out.row2.cell hj
                      clear hnw hx
                      go_wp2_with fail
                      refine (same_by A12 _ _ _ n12 _ n12 _ _ HN12.out HT2.out).mono ?_
                      rw [decide_eq_true rfl]
                      rintro e w13 ⟨rfl, hx⟩
                      have HA3 := Lib.hid (HA2.out.ext hx)
                      have HN11 := Lib.hid (HN11.out.ext hx)
                      have HT1 := Lib.hid (HA3.out.told1 j hj).by
                      have hc1 := HA3.out.row1.cell hj
                      clear hx hc2
                      go_wp2_with fail
                      refine (same_by A11 _ _ _ n11 _ n11 _ _ HN11.out HT1.out).mono ?_
                      rw [decide_eq_true rfl]
                      rintro e w14 ⟨rfl, hx⟩
                      have HA4 := Lib.hid (HA3.out.ext hx)
                      clear hx hc1
                      go_wp2_with fail
                      go_roundw
                      case rel => exact ⟨j + 1, by omega, by go_num, HA4⟩
                      case measure => simp [intOf]; omega
                  · go_wp2_with fail
                    go_ret
                    exact ⟨rfl, HAQ.out.dk.bel⟩
              · have hit : (if kd = 5 then q else p) = p := if_neg h5
                rw [hit] at HFA
                have g5 : ((kd : Int) == 5) = false := by rw [beq_eq_false_iff_ne]; omega
                clear hit h5
                go_wp2_with fail
                clear h0 h1 h2 g5
                go_loopw [18] (fun i wr => ∃ j : Nat, j ≤ 4 ∧ i = .int .i64 j ∧ Hid (Apd w wr d FG m5 (m5.act kd (p : Int) (q : Int) [] []).2 B (.cells #[.int .u8 (kd : Int), .int .i64 (p : Int), .int .i64 (q : Int), .slice none 0 0, .slice none 0 0] 36 (0, 0)) f g)) (fun i _ => 4 - (intOf i).toNat)
                case atStart => exact ⟨0, Nat.zero_le _, rfl, HAD⟩
                case round =>
                  obtain ⟨j, hj4, rfl, HAQ⟩ := hrel
                  by_cases hj : j < 4
                  · have HM : Hid ((m5.act kd (p : Int) (q : Int) [] []).2.means (j : Int) = m5.means (j : Int)) := Lib.hid (means_of HSZ.out (HFA.out _ (Nat.succ_ne_self _)).2.2.1 _)
                    have HM0 := Lib.hid (means_zero HW5.out.four hj)
                    have HWF : Hid ((m5.act kd (p : Int) (q : Int) [] []).2.waits.length ≤ 1000000) := Lib.hid (by rw [(HFA.out _ (Nat.succ_ne_self _)).2.1]; have := HFEW.out; omega)
                    by_cases hjh : j = p
                    · subst hjh
                      have g6 : ((j : Int) == (j : Int)) = true := by simp
                      go_wp2_with fail
                      refine (read_pd HAQ.out.dk.disk (j : Int) HWF.out).mono ?_
                      rintro e w11 ⟨A11, n11, rfl, hnw, hx⟩
                      have HA1 := Lib.hid (HAQ.out.ext hx)
                      clear hnw hx
                      go_wp2_with fail
                      refine (meant_pd HA1.out.dk.disk (j : Int)).mono ?_
                      rw [HM.out, HM0.out]
                      rintro e w12 ⟨A12, n12, rfl, hnw, hx⟩
                      have HA2 := Lib.hid (HA1.out.ext hx)
                      have HN12 := Lib.hid hnw.by
                      have HT2 := Lib.hid (HA2.out.told2 j hj).by
                      have hc2 := HA2.out.row2.cell hj
                      clear hnw hx
                      go_wp2_with fail
                      refine (same_by A12 _ _ _ n12 _ n12 _ _ HN12.out HT2.out).mono ?_
                      rw [decide_eq_true rfl]
                      rintro e w13 ⟨rfl, hx⟩
                      have HA3 := Lib.hid (HA2.out.ext hx)
                      clear hx hc2
                      go_wp2_with fail
                      go_roundw
                      case rel => exact ⟨j + 1, by omega, by go_num, HA3⟩
                      case measure => simp [intOf]; omega
                    · have g6 : ((j : Int) == (p : Int)) = false := by rw [beq_eq_false_iff_ne]; omega
                      have g7 : ¬ ((j : Int) = (p : Int)) := by omega
                      have HRD := Lib.hid (HFA.out j hjh).2.2.2
                      clear hjh
                      go_wp2_with fail
                      refine (read_pd HAQ.out.dk.disk (j : Int) HWF.out).mono ?_
                      rw [HRD.out]
                      rintro e w11 ⟨A11, n11, rfl, hnw, hx⟩
                      have HA1 := Lib.hid (HAQ.out.ext hx)
                      have HN11 := Lib.hid hnw.by
                      clear hnw hx
                      go_wp2_with fail
                      refine (meant_pd HA1.out.dk.disk (j : Int)).mono ?_
                      rw [HM.out, HM0.out]
                      rintro e w12 ⟨A12, n12, rfl, hnw, hx⟩
                      have HA2 := Lib.hid (HA1.out.ext hx)
                      have HN11 := Lib.hid (HN11.out.ext hx)
                      have HN12 := Lib.hid hnw.by
                      have HT2 := Lib.hid (HA2.out.told2 j hj).by
                      have hc2 := HA2.out.row2.cell hj
                      clear hnw hx
                      go_wp2_with fail
                      refine (same_by A12 _ _ _ n12 _ n12 _ _ HN12.out HT2.out).mono ?_
                      rw [decide_eq_true rfl]
                      rintro e w13 ⟨rfl, hx⟩
                      have HA3 := Lib.hid (HA2.out.ext hx)
                      have HN11 := Lib.hid (HN11.out.ext hx)
                      have HT1 := Lib.hid (HA3.out.told1 j hj).by
                      have hc1 := HA3.out.row1.cell hj
                      clear hx hc2
                      go_wp2_with fail
                      refine (same_by A11 _ _ _ n11 _ n11 _ _ HN11.out HT1.out).mono ?_
                      rw [decide_eq_true rfl]
                      rintro e w14 ⟨rfl, hx⟩
                      have HA4 := Lib.hid (HA3.out.ext hx)
                      clear hx hc1
                      go_wp2_with fail
                      go_roundw
                      case rel => exact ⟨j + 1, by omega, by go_num, HA4⟩
                      case measure => simp [intOf]; omega
                  · go_wp2_with fail
                    go_ret
                    exact ⟨rfl, HAQ.out.dk.bel⟩
        · have HU : Hid (m3.up = false) := Lib.hid (by simpa using hup)
          clear hup
          go_wp2_with fail
          refine (up_pd HD3.out.disk).mono ?_
          rw [HU.out]
          rintro e w4' ⟨rfl, rfl⟩
          clear HU
          go_wp2_with fail
          refine (crash_pd HD3.out.disk none 0 0 [] (keep_nil _ _) (fun _ => off_none _)).mono ?_
          unfold Outc
          rintro e w4 ⟨rfl, hp, hm⟩
          have HD4 := Lib.hid (HD3.out.step hp hm)
          have HW4 := Lib.hid (crash_down HW3.out []).1
          clear hp hm
          go_wp2_with fail
          refine (start_pd HD4.out.disk).mono ?_
          unfold Outc
          rintro e w5 ⟨rfl, hp, hm⟩
          obtain ⟨F5, m5, hD5, hW5⟩ : ∃ F5 m5, DK w w5 d F5 m5 ∧ WInv m5 k := ⟨_, _, HD4.out.step hp hm, WInv.started HW4.out⟩
          obtain ⟨O, hO⟩ : ∃ O : Obj, O = .cells #[.int .u8 (kd : Int), .int .i64 (p : Int), .int .i64 (q : Int), .slice none 0 0, .slice none 0 0] 36 (0, 0) := ⟨_, rfl⟩
          have hA0 := apt_start hD5 O
          have HO := Lib.hid hO
          have HW5 := Lib.hid hW5
          have HFEW : Hid (m5.waits.length ≤ 1000) := Lib.hid (by have := hW5.few; omega)
          have hFA := fun (s : Nat) hs => fault_apart (m := m5) kd p q s HK3.out (by rw [hW5.four]; exact HP4.out) (by rw [hW5.four]; exact HQ4.out) hs
          have HSZ : Hid ((m5.act kd (p : Int) (q : Int) [] []).2.size = m5.size) := Lib.hid (DM.act_size _ _ _ _ _)
          have HFD := fun (w : World) (F : Nat → Prop) (h : PDisk w d F m5) => fault_do h kd p q (by have := HK3.out; omega) (by have := HP4.out; omega) (by have := HQ4.out; omega) HFEW.out
          obtain ⟨mf, hmf⟩ : ∃ mf, (m5.act kd (p : Int) (q : Int) [] []).2 = mf := ⟨_, rfl⟩
          have HFD1 := Lib.hid HFD
          have HFA := Lib.hid hFA
          rw [hO] at hA0
          have HA0 := Lib.hid hA0
          clear hp hm hD5 hW5 HD4 HW4 hA0 hO HO hFA HFD hmf mf
          go_wp2_with fail
          obtain ⟨B, hB⟩ : ∃ B, B = w5.heap.size := ⟨_, rfl⟩
          rw [← hB] at HA0 ⊢
          rw [hwp, hwq]
          clear hB
          go_loopw [15] (fun i wr => ∃ j : Nat, j ≤ 4 ∧ i = .int .i64 j ∧ ∃ f g : Nat → Option Addr × Nat, Hid (Apt w wr d F5 m5 B (.cells #[.int .u8 (kd : Int), .int .i64 (p : Int), .int .i64 (q : Int), .slice none 0 0, .slice none 0 0] 36 (0, 0)) f g j j)) (fun i _ => 4 - (intOf i).toNat)
          case atStart => exact ⟨0, Nat.zero_le _, rfl, _, _, HA0⟩
          case round =>
            obtain ⟨j, hj4, rfl, f, g, HAP⟩ := hrel
            by_cases hj : j < 4
            · go_wp2_with fail
              refine (read_pd HAP.out.dk.disk (j : Int) (by have := HFEW.out; omega)).mono ?_
              rintro e w6 ⟨A6, n6, rfl, hnw, hx⟩
              have HT := Lib.hid (Tol.of hnw HAP.out.gv)
              have HAP1 := Lib.hid (HAP.out.ext hx)
              have hc1 := HAP1.out.row1.cell hj
              have hf1 := HAP1.out.row1.free j
              clear hnw hx
              go_wp2_with fail
              have HAP2 := Lib.hid (HAP1.out.put1 hj HT.out)
              clear hc1 hf1 HT
              refine (meant_pd HAP2.out.dk.disk (j : Int)).mono ?_
              rintro e w7 ⟨A7, n7, rfl, hnw, hx⟩
              have HT := Lib.hid (Tol.of hnw HAP2.out.gv)
              have HAP3 := Lib.hid (HAP2.out.ext hx)
              have hc2 := HAP3.out.row2.cell hj
              have hf2 := HAP3.out.row2.free j
              clear hnw hx
              go_wp2_with fail
              have HAP4 := Lib.hid (HAP3.out.put2 hj HT.out)
              clear hc2 hf2 HT
              go_roundw
              case rel => first | exact ⟨j + 1, by omega, by go_num, _, _, HAP4⟩ | ((repeat apply Exists.intro); exact ⟨⟨j + 1, by omega, by go_num, _, _, HAP4⟩, rfl⟩)
              case measure => simp [intOf]; omega
            · obtain rfl : j = 4 := by omega
              clear hj hj4
              go_wp2_with fail
              refine (waits_pd HAP.out.dk.disk).mono ?_
              rintro e w8 ⟨rfl, rfl⟩
              have hcs := (cells5 HAP.out.act).1
              obtain ⟨h0, h1, h2, h3, h4⟩ := hcs
              go_wp2_with fail
              refine (HFD1.out _ _ HAP.out.dk.disk).mono ?_
              unfold Outc
              rw [(HFA.out _ (Nat.succ_ne_self _)).1]
              rintro e w9 ⟨rfl, hp, hm⟩
              obtain ⟨FG, hFG⟩ : ∃ FG : Nat → Prop, Apd w w9 d FG m5 (m5.act kd (p : Int) (q : Int) [] []).2 B (.cells #[.int .u8 (kd : Int), .int .i64 (p : Int), .int .i64 (q : Int), .slice none 0 0, .slice none 0 0] 36 (0, 0)) f g := ⟨_, HAP.out.fault hp hm⟩
              have HAD := Lib.hid hFG
              clear hFG
              clear h0 h1 h2 h3 h4 hp hm
              go_wp2_with fail
              refine (waits_pd HAD.out.dk.disk).mono ?_
              rw [(HFA.out _ (Nat.succ_ne_self _)).2.1]
              rintro e w10 ⟨rfl, rfl⟩
              have hcs := (cells5 HAD.out.act).1
              obtain ⟨h0, h1, h2, h3, h4⟩ := hcs
              clear h3 h4
              by_cases h5 : kd = 5
              · have hit : (if kd = 5 then q else p) = q := if_pos h5
                rw [hit] at HFA
                have g5 : ((kd : Int) == 5) = true := by rw [h5]; rfl
                clear hit h5
                go_wp2_with fail
                clear h0 h1 h2 g5
                go_loopw [18] (fun i wr => ∃ j : Nat, j ≤ 4 ∧ i = .int .i64 j ∧ Hid (Apd w wr d FG m5 (m5.act kd (p : Int) (q : Int) [] []).2 B (.cells #[.int .u8 (kd : Int), .int .i64 (p : Int), .int .i64 (q : Int), .slice none 0 0, .slice none 0 0] 36 (0, 0)) f g)) (fun i _ => 4 - (intOf i).toNat)
                case atStart => exact ⟨0, Nat.zero_le _, rfl, HAD⟩
                case round =>
                  obtain ⟨j, hj4, rfl, HAQ⟩ := hrel
                  by_cases hj : j < 4
                  · have HM : Hid ((m5.act kd (p : Int) (q : Int) [] []).2.means (j : Int) = m5.means (j : Int)) := Lib.hid (means_of HSZ.out (HFA.out _ (Nat.succ_ne_self _)).2.2.1 _)
                    have HM0 := Lib.hid (means_zero HW5.out.four hj)
                    have HWF : Hid ((m5.act kd (p : Int) (q : Int) [] []).2.waits.length ≤ 1000000) := Lib.hid (by rw [(HFA.out _ (Nat.succ_ne_self _)).2.1]; have := HFEW.out; omega)
                    by_cases hjh : j = q
                    · subst hjh
                      have g6 : ((j : Int) == (j : Int)) = true := by simp
                      go_wp2_with fail
                      refine (read_pd HAQ.out.dk.disk (j : Int) HWF.out).mono ?_
                      rintro e w11 ⟨A11, n11, rfl, hnw, hx⟩
                      have HA1 := Lib.hid (HAQ.out.ext hx)
                      clear hnw hx
                      go_wp2_with fail
                      refine (meant_pd HA1.out.dk.disk (j : Int)).mono ?_
                      rw [HM.out, HM0.out]
                      rintro e w12 ⟨A12, n12, rfl, hnw, hx⟩
                      have HA2 := Lib.hid (HA1.out.ext hx)
                      have HN12 := Lib.hid hnw.by
                      have HT2 := Lib.hid (HA2.out.told2 j hj).by
                      have hc2 := HA2.out.row2.cell hj
                      clear hnw hx
                      go_wp2_with fail
                      refine (same_by A12 _ _ _ n12 _ n12 _ _ HN12.out HT2.out).mono ?_
                      rw [decide_eq_true rfl]
                      rintro e w13 ⟨rfl, hx⟩
                      have HA3 := Lib.hid (HA2.out.ext hx)
                      clear hx hc2
                      go_wp2_with fail
                      go_roundw
                      case rel => exact ⟨j + 1, by omega, by go_num, HA3⟩
                      case measure => simp [intOf]; omega
                    · have g6 : ((j : Int) == (q : Int)) = false := by rw [beq_eq_false_iff_ne]; omega
                      have g7 : ¬ ((j : Int) = (q : Int)) := by omega
                      have HRD := Lib.hid (HFA.out j hjh).2.2.2
                      clear hjh
                      go_wp2_with fail
                      refine (read_pd HAQ.out.dk.disk (j : Int) HWF.out).mono ?_
                      rw [HRD.out]
                      rintro e w11 ⟨A11, n11, rfl, hnw, hx⟩
                      have HA1 := Lib.hid (HAQ.out.ext hx)
                      have HN11 := Lib.hid hnw.by
                      clear hnw hx
                      go_wp2_with fail
                      refine (meant_pd HA1.out.dk.disk (j : Int)).mono ?_
                      rw [HM.out, HM0.out]
                      rintro e w12 ⟨A12, n12, rfl, hnw, hx⟩
                      have HA2 := Lib.hid (HA1.out.ext hx)
                      have HN11 := Lib.hid (HN11.out.ext hx)
                      have HN12 := Lib.hid hnw.by
                      have HT2 := Lib.hid (HA2.out.told2 j hj).by
                      have hc2 := HA2.out.row2.cell hj
                      clear hnw hx
                      go_wp2_with fail
                      refine (same_by A12 _ _ _ n12 _ n12 _ _ HN12.out HT2.out).mono ?_
                      rw [decide_eq_true rfl]
                      rintro e w13 ⟨rfl, hx⟩
                      have HA3 := Lib.hid (HA2.out.ext hx)
                      have HN11 := Lib.hid (HN11.out.ext hx)
                      have HT1 := Lib.hid (HA3.out.told1 j hj).by
                      have hc1 := HA3.out.row1.cell hj
                      clear hx hc2
                      go_wp2_with fail
                      refine (same_by A11 _ _ _ n11 _ n11 _ _ HN11.out HT1.out).mono ?_
                      rw [decide_eq_true rfl]
                      rintro e w14 ⟨rfl, hx⟩
                      have HA4 := Lib.hid (HA3.out.ext hx)
                      clear hx hc1
                      go_wp2_with fail
                      go_roundw
                      case rel => exact ⟨j + 1, by omega, by go_num, HA4⟩
                      case measure => simp [intOf]; omega
                  · go_wp2_with fail
                    go_ret
                    exact ⟨rfl, HAQ.out.dk.bel⟩
              · have hit : (if kd = 5 then q else p) = p := if_neg h5
                rw [hit] at HFA
                have g5 : ((kd : Int) == 5) = false := by rw [beq_eq_false_iff_ne]; omega
                clear hit h5
                go_wp2_with fail
                clear h0 h1 h2 g5
                go_loopw [18] (fun i wr => ∃ j : Nat, j ≤ 4 ∧ i = .int .i64 j ∧ Hid (Apd w wr d FG m5 (m5.act kd (p : Int) (q : Int) [] []).2 B (.cells #[.int .u8 (kd : Int), .int .i64 (p : Int), .int .i64 (q : Int), .slice none 0 0, .slice none 0 0] 36 (0, 0)) f g)) (fun i _ => 4 - (intOf i).toNat)
                case atStart => exact ⟨0, Nat.zero_le _, rfl, HAD⟩
                case round =>
                  obtain ⟨j, hj4, rfl, HAQ⟩ := hrel
                  by_cases hj : j < 4
                  · have HM : Hid ((m5.act kd (p : Int) (q : Int) [] []).2.means (j : Int) = m5.means (j : Int)) := Lib.hid (means_of HSZ.out (HFA.out _ (Nat.succ_ne_self _)).2.2.1 _)
                    have HM0 := Lib.hid (means_zero HW5.out.four hj)
                    have HWF : Hid ((m5.act kd (p : Int) (q : Int) [] []).2.waits.length ≤ 1000000) := Lib.hid (by rw [(HFA.out _ (Nat.succ_ne_self _)).2.1]; have := HFEW.out; omega)
                    by_cases hjh : j = p
                    · subst hjh
                      have g6 : ((j : Int) == (j : Int)) = true := by simp
                      go_wp2_with fail
                      refine (read_pd HAQ.out.dk.disk (j : Int) HWF.out).mono ?_
                      rintro e w11 ⟨A11, n11, rfl, hnw, hx⟩
                      have HA1 := Lib.hid (HAQ.out.ext hx)
                      clear hnw hx
                      go_wp2_with fail
                      refine (meant_pd HA1.out.dk.disk (j : Int)).mono ?_
                      rw [HM.out, HM0.out]
                      rintro e w12 ⟨A12, n12, rfl, hnw, hx⟩
                      have HA2 := Lib.hid (HA1.out.ext hx)
                      have HN12 := Lib.hid hnw.by
                      have HT2 := Lib.hid (HA2.out.told2 j hj).by
                      have hc2 := HA2.out.row2.cell hj
                      clear hnw hx
                      go_wp2_with fail
                      refine (same_by A12 _ _ _ n12 _ n12 _ _ HN12.out HT2.out).mono ?_
                      rw [decide_eq_true rfl]
                      rintro e w13 ⟨rfl, hx⟩
                      have HA3 := Lib.hid (HA2.out.ext hx)
                      clear hx hc2
                      go_wp2_with fail
                      go_roundw
                      case rel => exact ⟨j + 1, by omega, by go_num, HA3⟩
                      case measure => simp [intOf]; omega
                    · have g6 : ((j : Int) == (p : Int)) = false := by rw [beq_eq_false_iff_ne]; omega
                      have g7 : ¬ ((j : Int) = (p : Int)) := by omega
                      have HRD := Lib.hid (HFA.out j hjh).2.2.2
                      clear hjh
                      go_wp2_with fail
                      refine (read_pd HAQ.out.dk.disk (j : Int) HWF.out).mono ?_
                      rw [HRD.out]
                      rintro e w11 ⟨A11, n11, rfl, hnw, hx⟩
                      have HA1 := Lib.hid (HAQ.out.ext hx)
                      have HN11 := Lib.hid hnw.by
                      clear hnw hx
                      go_wp2_with fail
                      refine (meant_pd HA1.out.dk.disk (j : Int)).mono ?_
                      rw [HM.out, HM0.out]
                      rintro e w12 ⟨A12, n12, rfl, hnw, hx⟩
                      have HA2 := Lib.hid (HA1.out.ext hx)
                      have HN11 := Lib.hid (HN11.out.ext hx)
                      have HN12 := Lib.hid hnw.by
                      have HT2 := Lib.hid (HA2.out.told2 j hj).by
                      have hc2 := HA2.out.row2.cell hj
                      clear hnw hx
                      go_wp2_with fail
                      refine (same_by A12 _ _ _ n12 _ n12 _ _ HN12.out HT2.out).mono ?_
                      rw [decide_eq_true rfl]
                      rintro e w13 ⟨rfl, hx⟩
                      have HA3 := Lib.hid (HA2.out.ext hx)
                      have HN11 := Lib.hid (HN11.out.ext hx)
                      have HT1 := Lib.hid (HA3.out.told1 j hj).by
                      have hc1 := HA3.out.row1.cell hj
                      clear hx hc2
                      go_wp2_with fail
                      refine (same_by A11 _ _ _ n11 _ n11 _ _ HN11.out HT1.out).mono ?_
                      rw [decide_eq_true rfl]
                      rintro e w14 ⟨rfl, hx⟩
                      have HA4 := Lib.hid (HA3.out.ext hx)
                      clear hx hc1
                      go_wp2_with fail
                      go_roundw
                      case rel => exact ⟨j + 1, by omega, by go_num, HA4⟩
                      case measure => simp [intOf]; omega
                  · go_wp2_with fail
                    go_ret
                    exact ⟨rfl, HAQ.out.dk.bel⟩
end Go.Proofs.Ytmfbeglidhejkaa
