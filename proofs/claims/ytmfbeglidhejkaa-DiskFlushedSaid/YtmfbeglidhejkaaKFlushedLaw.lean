/-
  DiskFlushed: what has been flushed comes through all but faults at its sector and later writes of it.
-/
import Derived.Test.YtmfbeglidhejkaaKAwake
import Derived.Test.YtmfbeglidhejkaaKDoor
import Derived.Test.YtmfbeglidhejkaaKGreat
import Derived.Test.YtmfbeglidhejkaaDDown
import Derived.Test.YtmfbeglidhejkaaWMod
import Derived.Test.YtmfbeglidhejkaaTol
import Derived.Deep.RegionHeld3
namespace Go.Proofs.Ytmfbeglidhejkaa
open Go Go.RowKit

theorem write_few (m : DM) (s : Int) (b : List Nat) : (m.write s b).2.waits.length ≤ m.waits.length + 1 := by
  unfold DM.write
  split
  · simp
  · split
    · simp
    · split <;> simp
theorem flush_few (m : DM) : m.flush.2.waits.length ≤ m.waits.length := by
  unfold DM.flush
  split
  · simp
  · split <;> simp

set_option maxRecDepth 100000 in
set_option maxHeartbeats 12800000 in
theorem diskFlushed_law (A : Option Addr) (n c : Nat) (l : List Act5) (z x : Int) (A3 : Option Addr) (n3 c3 : Nat) (l3 : List Bool) (w : World) (ha : Acts w w.heap.size A n c l) (_ : (Lit.int .i64 z).wf = true) (hx : (Lit.int .u8 x).wf = true) (_ : Vs w w.heap.size A3 n3 c3 (l3.map .bool)) :
    Calls Try.prog 5 #[.slice A n c, .int .i64 z, .int .u8 x, .slice A3 n3 c3] w fun e w' => e = .returned (.bool true) ∧ Ext w w' := by
  have HA := Lib.hid ha
  have hn : 0 ≤ n := Nat.zero_le _
  obtain ⟨q, hq4, hwq⟩ := wrap_mod z 4 (by omega) (by omega)
  have hwq : wrap64 ((IntKind.u64.wrap z).tmod 4) = (q : Int) := hwq
  have HQ4 := Lib.hid hq4
  have hx8 := bounds_u8 hx
  obtain ⟨y, rfl⟩ : ∃ y : Nat, x = (y : Int) := ⟨x.toNat, by omega⟩
  have hy : y < 256 := by omega
  have HY := Lib.hid hy
  have hwy : wrap64 (y : Int) = (y : Int) := IntWalk.wrap64_in _ (by omega)
  have hst := FInv.start (b := List.replicate 64 y) hq4 ⟨by simp, rep_lt y hy⟩
  have HST1 := Lib.hid hst.1
  have HST2 := Lib.hid hst.2.1
  have HST3 := Lib.hid hst.2.2
  clear ha hq4 hx hx8 hy hst
  go_enter Try.func5, Try.ntmps5
  go_wp2_with fail
  refine (kawake_any w).mono ?_
  rintro e w1 ⟨rfl, hx⟩
  have HE := Lib.hid hx
  clear hx
  go_wp2_with fail
  refine (great_of A n c l ((HA.out.below HE.out).more HE.out.size)).mono ?_
  rintro e w1' ⟨b, rfl, rfl, hg⟩
  cases b with
  | true =>
    go_wp2_with fail
    go_ret
    exact ⟨rfl, HE.out⟩
  | false =>
    have HG := Lib.hid (hg rfl)
    have hn120 : n ≤ 120 := (hg rfl).1
    clear hg
    by_cases hn3 : 100 < n3
    · go_wp2_with fail
      go_ret
      exact ⟨rfl, HE.out⟩
    go_wp2_with fail
    refine (new_pdk 4 _ (by omega) (by omega)).mono ?_
    rintro e w2 ⟨d, rfl, hp, hx⟩
    have HD : Hid (DK w w2 d _ (DM.new 4)) := Lib.hid ⟨hp, fun k hk => Nat.le_trans HE.out.size hk.1, HE.out.trans hx⟩
    clear hp hx
    go_wp2_with fail
    refine (sector_n y HY.out _).mono ?_
    rintro e w3 ⟨As, ns, cs, rfl, hown, hx⟩
    have HOF := Lib.hid (HD.out.fresh hown)
    have HBY : Hid (By w3 As ns cs (List.replicate 64 y)) := Lib.hid (Bs.of_own hown (rep_lt y HY.out))
    have HD := Lib.hid (HD.out.ext hx)
    clear hown hx
    go_wp2_with fail
    refine (write_pd HD.out.disk (q : Int) As ns cs (List.replicate 64 y) HBY.out HOF.out (Nat.zero_le _)).mono ?_
    unfold Outc
    rw [HST1.out]
    rintro e w4 ⟨rfl, hp, hm⟩
    have HD := Lib.hid (HD.out.step hp hm)
    clear hp hm HBY HOF
    go_wp2_with fail
    refine (flush_pd HD.out.disk).mono ?_
    unfold Outc
    rw [HST2.out]
    rintro e w5 ⟨rfl, hp, hm⟩
    have HD := Lib.hid (HD.out.step hp hm)
    have HW0 : Hid (((DM.new 4).write (q : Int) (List.replicate 64 y)).2.flush.2.waits.length ≤ 1) := Lib.hid (Nat.le_trans (flush_few _) (write_few _ _ _))
    clear hp hm HST1 HST2
    go_wp2_with fail
    go_loopw [11] (fun i wr => ∃ k : Nat, k ≤ n ∧ i = .int .i64 k ∧ ∃ (F : Nat → Prop) (m : DM), Hid (DK w wr d F m) ∧ Hid (FInv m q (List.replicate 64 y)) ∧ Hid (m.waits.length ≤ k + 1)) (fun i _ => n - (intOf i).toNat)
    case atStart => exact ⟨0, Nat.zero_le _, rfl, _, _, HD, HST3, HW0⟩
    case round =>
      obtain ⟨k, hkn, rfl, F, m3, HD3, HF3, HW3⟩ := hrel
      by_cases hlt : k < n
      · obtain ⟨g, o, a, rfl, hg, hal, hok, h0, h1, h2, h3, h4⟩ := HA.out.at_ hlt
        have hc0 := (HD3.out.bel.cell (p := ⟨g, o + k * 5, none⟩) hg).trans h0
        have hc1 := (HD3.out.bel.cell (p := ⟨g, o + k * 5 + 1, none⟩) hg).trans h1
        have hc2 := (HD3.out.bel.cell (p := ⟨g, o + k * 5 + 2, none⟩) hg).trans h2
        have hc3 := (HD3.out.bel.cell (p := ⟨g, o + k * 5 + 3, none⟩) hg).trans h3
        have hc4 := (HD3.out.bel.cell (p := ⟨g, o + k * 5 + 4, none⟩) hg).trans h4
        have HDO := Lib.hid (do_dk HD3.out a hok (HG.out.2 a (List.mem_of_getElem? hal)).1 (by have := HW3.out; omega))
        obtain ⟨r, hr⟩ : ∃ r, a.kind % 9 = r := ⟨_, rfl⟩
        have hr9 : r < 9 := by omega
        have hrm : ((a.kind : Nat) : Int).tmod 9 = (r : Int) := by rw [Int.tmod_eq_emod_of_nonneg (by omega)]; omega
        have HACT : Hid (¬ (3 ≤ r ∧ r ≤ 5) → (r = 6 ∨ r = 7 → a.sec ≠ (q : Int)) → FInv (m3.act a.kind a.sec a.num a.bl a.kl).2 q (List.replicate 64 y)) := Lib.hid fun h5 h6 => HF3.out.act a.kind a.sec a.num hok.bytes.rd.lt a.kl (by rw [hr]; exact h5) (by rw [hr]; exact h6)
        have HW4 := Lib.hid (Nat.le_trans (act_few m3 a.kind a.sec a.num a.bl a.kl) (Nat.succ_le_succ HW3.out))
        clear h0 h1 h2 h3 h4 hal hok hr
        obtain ⟨m4, hm4⟩ : ∃ m4, (m3.act a.kind a.sec a.num a.bl a.kl).2 = m4 := ⟨_, rfl⟩
        rw [hm4] at HACT HW4 HDO
        clear hm4
        have hgrp : (r = 3 ∨ r = 4 ∨ r = 5) ∨ ((r = 6 ∨ r = 7) ∧ a.sec = (q : Int)) ∨ (r < 3 ∨ r = 8 ∨ (r = 6 ∧ a.sec ≠ (q : Int)) ∨ (r = 7 ∧ a.sec ≠ (q : Int))) := by omega
        rcases hgrp with (e | e | e) | ⟨e | e, e2⟩ | e | e | ⟨e, e2⟩ | ⟨e, e2⟩
        · subst e
          go_wp2_with fail
          go_roundw
          case rel => exact ⟨k + 1, by omega, by go_num, _, _, HD3, HF3, Lib.hid (Nat.le_succ_of_le HW3.out)⟩
          case measure => simp [intOf]; omega
        · subst e
          go_wp2_with fail
          go_roundw
          case rel => exact ⟨k + 1, by omega, by go_num, _, _, HD3, HF3, Lib.hid (Nat.le_succ_of_le HW3.out)⟩
          case measure => simp [intOf]; omega
        · subst e
          go_wp2_with fail
          go_roundw
          case rel => exact ⟨k + 1, by omega, by go_num, _, _, HD3, HF3, Lib.hid (Nat.le_succ_of_le HW3.out)⟩
          case measure => simp [intOf]; omega
        · subst e
          have g9 : (a.sec == (q : Int)) = true := by rw [e2]; simp
          go_wp2_with fail
          go_roundw
          case rel => exact ⟨k + 1, by omega, by go_num, _, _, HD3, HF3, Lib.hid (Nat.le_succ_of_le HW3.out)⟩
          case measure => simp [intOf]; omega
        · subst e
          have g9 : (a.sec == (q : Int)) = true := by rw [e2]; simp
          go_wp2_with fail
          go_roundw
          case rel => exact ⟨k + 1, by omega, by go_num, _, _, HD3, HF3, Lib.hid (Nat.le_succ_of_le HW3.out)⟩
          case measure => simp [intOf]; omega
        · have HF4 := Lib.hid (HACT.out (by omega) (by omega))
          have g6 : ((r : Int) == 6) = false := by rw [beq_eq_false_iff_ne]; omega
          have g7 : ((r : Int) == 7) = false := by rw [beq_eq_false_iff_ne]; omega
          have g3 : ¬ (3 : Int) ≤ (r : Int) := by omega
          clear HACT
          go_wp2_with fail
          refine HDO.out.mono ?_
          rintro e w6 ⟨rfl, hd⟩
          obtain ⟨F4, hF4⟩ : ∃ F4, grow F wr w6 = F4 := ⟨_, rfl⟩
          rw [hF4] at hd
          have HD5 := Lib.hid hd
          have HAT := Lib.hid (HF4.out.at_ q HQ4.out).1
          rw [HF4.out.held] at HAT
          have HW5 : Hid (m4.waits.length ≤ 1000000) := Lib.hid (by have := HW4.out; omega)
          clear hd hc0 hc1 hc2 hc3 hc4 hF4
          go_wp2_with fail
          refine (rest_pd HD5.out.disk (q : Int)).mono ?_
          rw [HAT.out]
          rintro e w7 ⟨A7, n7, rfl, hnw, hx⟩
          have HN7 := Lib.hid hnw
          have HD6 := Lib.hid (HD5.out.ext hx)
          clear hnw hx
          go_wp2_with fail
          refine (sector_n y HY.out _).mono ?_
          rintro e w8 ⟨As8, ns8, cs8, rfl, hown, hx⟩
          have HB8 : Hid (By w8 As8 ns8 cs8 (List.replicate 64 y)) := Lib.hid (Bs.of_own hown (rep_lt y HY.out))
          have HN7 := Lib.hid (HN7.out.ext hx)
          have HD6 := Lib.hid (HD6.out.ext hx)
          clear hown hx
          go_wp2_with fail
          refine (same_by A7 As8 _ _ n7 ns8 n7 cs8 _ HN7.out.by HB8.out).mono ?_
          rw [decide_eq_true (rfl : List.replicate 64 y = List.replicate 64 y)]
          rintro e w8' ⟨rfl, hx⟩
          have HD6 := Lib.hid (HD6.out.ext hx)
          clear hx HN7 HB8
          by_cases hup : m4.up = true
          · have HU := Lib.hid hup
            have HRD := Lib.hid (decide_eq_true (HF4.out.read HQ4.out hup))
            clear hup
            go_wp2_with fail
            refine (up_pd HD6.out.disk).mono ?_
            rw [HU.out]
            rintro e w8'' ⟨rfl, rfl⟩
            go_wp2_with fail
            refine (reads_of HD6.out.disk (q : Int) y HY.out HW5.out).mono ?_
            rw [HRD.out]
            rintro e w8'' ⟨rfl, hx⟩
            have HD7 := Lib.hid (HD6.out.ext hx)
            clear hx
            go_wp2_with fail
            go_loopw [16] (fun i wq => ∃ j : Nat, j ≤ 4 ∧ i = .int .i64 j ∧ Hid (DK w wq d F4 m4)) (fun i _ => 4 - (intOf i).toNat)
            case atStart => exact ⟨0, Nat.zero_le _, rfl, HD7⟩
            case round =>
              obtain ⟨j, hj4, rfl, HD8⟩ := hrel
              by_cases hj : j < 4
              · have hat := HF4.out.at_ j hj
                have HAT1 := Lib.hid hat.1
                have HAT2 := Lib.hid hat.2
                obtain ⟨bj, hbj⟩ : ∃ bj, m4.rest.getD j [] = bj := ⟨_, rfl⟩
                rw [hbj] at HAT1 HAT2
                clear hat hbj
                go_wp2_with fail
                refine (rest_pd HD8.out.disk (j : Int)).mono ?_
                rw [HAT1.out]
                rintro e w9 ⟨A9, n9, rfl, hnw, hx⟩
                have HN9 := Lib.hid hnw
                have HD9 := Lib.hid (HD8.out.ext hx)
                clear hnw hx
                go_wp2_with fail
                refine (meant_pd HD9.out.disk (j : Int)).mono ?_
                rw [HAT2.out]
                rintro e w10 ⟨A10, n10, rfl, hnw, hx⟩
                have HN10 := Lib.hid hnw
                have HN9 := Lib.hid (HN9.out.ext hx)
                have HD10 := Lib.hid (HD9.out.ext hx)
                clear hnw hx
                go_wp2_with fail
                refine (same_by A9 A10 bj bj n9 n10 n9 n10 _ HN9.out.by HN10.out.by).mono ?_
                rw [decide_eq_true (rfl : bj = bj)]
                rintro e w11 ⟨rfl, hx⟩
                have HD11 := Lib.hid (HD10.out.ext hx)
                clear hx
                go_wp2_with fail
                go_roundw
                case rel => exact ⟨j + 1, by omega, by go_num, HD11⟩
                case measure => simp [intOf]; omega
              · go_wp2_with fail
                go_roundw
                case rel => exact ⟨k + 1, by omega, by go_num, _, _, HD8, HF4, HW4⟩
                case measure => simp [intOf]; omega
          · have HU : Hid (m4.up = false) := Lib.hid (by simpa using hup)
            clear hup
            go_wp2_with fail
            refine (up_pd HD6.out.disk).mono ?_
            rw [HU.out]
            rintro e w8'' ⟨rfl, rfl⟩
            have HD7 := HD6
            go_wp2_with fail
            go_loopw [16] (fun i wq => ∃ j : Nat, j ≤ 4 ∧ i = .int .i64 j ∧ Hid (DK w wq d F4 m4)) (fun i _ => 4 - (intOf i).toNat)
            case atStart => exact ⟨0, Nat.zero_le _, rfl, HD7⟩
            case round =>
              obtain ⟨j, hj4, rfl, HD8⟩ := hrel
              by_cases hj : j < 4
              · have hat := HF4.out.at_ j hj
                have HAT1 := Lib.hid hat.1
                have HAT2 := Lib.hid hat.2
                obtain ⟨bj, hbj⟩ : ∃ bj, m4.rest.getD j [] = bj := ⟨_, rfl⟩
                rw [hbj] at HAT1 HAT2
                clear hat hbj
                go_wp2_with fail
                refine (rest_pd HD8.out.disk (j : Int)).mono ?_
                rw [HAT1.out]
                rintro e w9 ⟨A9, n9, rfl, hnw, hx⟩
                have HN9 := Lib.hid hnw
                have HD9 := Lib.hid (HD8.out.ext hx)
                clear hnw hx
                go_wp2_with fail
                refine (meant_pd HD9.out.disk (j : Int)).mono ?_
                rw [HAT2.out]
                rintro e w10 ⟨A10, n10, rfl, hnw, hx⟩
                have HN10 := Lib.hid hnw
                have HN9 := Lib.hid (HN9.out.ext hx)
                have HD10 := Lib.hid (HD9.out.ext hx)
                clear hnw hx
                go_wp2_with fail
                refine (same_by A9 A10 bj bj n9 n10 n9 n10 _ HN9.out.by HN10.out.by).mono ?_
                rw [decide_eq_true (rfl : bj = bj)]
                rintro e w11 ⟨rfl, hx⟩
                have HD11 := Lib.hid (HD10.out.ext hx)
                clear hx
                go_wp2_with fail
                go_roundw
                case rel => exact ⟨j + 1, by omega, by go_num, HD11⟩
                case measure => simp [intOf]; omega
              · go_wp2_with fail
                go_roundw
                case rel => exact ⟨k + 1, by omega, by go_num, _, _, HD8, HF4, HW4⟩
                case measure => simp [intOf]; omega
        · subst e
          have HF4 := Lib.hid (HACT.out (by omega) (by omega))
          clear HACT
          go_wp2_with fail
          refine HDO.out.mono ?_
          rintro e w6 ⟨rfl, hd⟩
          obtain ⟨F4, hF4⟩ : ∃ F4, grow F wr w6 = F4 := ⟨_, rfl⟩
          rw [hF4] at hd
          have HD5 := Lib.hid hd
          have HAT := Lib.hid (HF4.out.at_ q HQ4.out).1
          rw [HF4.out.held] at HAT
          have HW5 : Hid (m4.waits.length ≤ 1000000) := Lib.hid (by have := HW4.out; omega)
          clear hd hc0 hc1 hc2 hc3 hc4 hF4
          go_wp2_with fail
          refine (rest_pd HD5.out.disk (q : Int)).mono ?_
          rw [HAT.out]
          rintro e w7 ⟨A7, n7, rfl, hnw, hx⟩
          have HN7 := Lib.hid hnw
          have HD6 := Lib.hid (HD5.out.ext hx)
          clear hnw hx
          go_wp2_with fail
          refine (sector_n y HY.out _).mono ?_
          rintro e w8 ⟨As8, ns8, cs8, rfl, hown, hx⟩
          have HB8 : Hid (By w8 As8 ns8 cs8 (List.replicate 64 y)) := Lib.hid (Bs.of_own hown (rep_lt y HY.out))
          have HN7 := Lib.hid (HN7.out.ext hx)
          have HD6 := Lib.hid (HD6.out.ext hx)
          clear hown hx
          go_wp2_with fail
          refine (same_by A7 As8 _ _ n7 ns8 n7 cs8 _ HN7.out.by HB8.out).mono ?_
          rw [decide_eq_true (rfl : List.replicate 64 y = List.replicate 64 y)]
          rintro e w8' ⟨rfl, hx⟩
          have HD6 := Lib.hid (HD6.out.ext hx)
          clear hx HN7 HB8
          by_cases hup : m4.up = true
          · have HU := Lib.hid hup
            have HRD := Lib.hid (decide_eq_true (HF4.out.read HQ4.out hup))
            clear hup
            go_wp2_with fail
            refine (up_pd HD6.out.disk).mono ?_
            rw [HU.out]
            rintro e w8'' ⟨rfl, rfl⟩
            go_wp2_with fail
            refine (reads_of HD6.out.disk (q : Int) y HY.out HW5.out).mono ?_
            rw [HRD.out]
            rintro e w8'' ⟨rfl, hx⟩
            have HD7 := Lib.hid (HD6.out.ext hx)
            clear hx
            go_wp2_with fail
            go_loopw [16] (fun i wq => ∃ j : Nat, j ≤ 4 ∧ i = .int .i64 j ∧ Hid (DK w wq d F4 m4)) (fun i _ => 4 - (intOf i).toNat)
            case atStart => exact ⟨0, Nat.zero_le _, rfl, HD7⟩
            case round =>
              obtain ⟨j, hj4, rfl, HD8⟩ := hrel
              by_cases hj : j < 4
              · have hat := HF4.out.at_ j hj
                have HAT1 := Lib.hid hat.1
                have HAT2 := Lib.hid hat.2
                obtain ⟨bj, hbj⟩ : ∃ bj, m4.rest.getD j [] = bj := ⟨_, rfl⟩
                rw [hbj] at HAT1 HAT2
                clear hat hbj
                go_wp2_with fail
                refine (rest_pd HD8.out.disk (j : Int)).mono ?_
                rw [HAT1.out]
                rintro e w9 ⟨A9, n9, rfl, hnw, hx⟩
                have HN9 := Lib.hid hnw
                have HD9 := Lib.hid (HD8.out.ext hx)
                clear hnw hx
                go_wp2_with fail
                refine (meant_pd HD9.out.disk (j : Int)).mono ?_
                rw [HAT2.out]
                rintro e w10 ⟨A10, n10, rfl, hnw, hx⟩
                have HN10 := Lib.hid hnw
                have HN9 := Lib.hid (HN9.out.ext hx)
                have HD10 := Lib.hid (HD9.out.ext hx)
                clear hnw hx
                go_wp2_with fail
                refine (same_by A9 A10 bj bj n9 n10 n9 n10 _ HN9.out.by HN10.out.by).mono ?_
                rw [decide_eq_true (rfl : bj = bj)]
                rintro e w11 ⟨rfl, hx⟩
                have HD11 := Lib.hid (HD10.out.ext hx)
                clear hx
                go_wp2_with fail
                go_roundw
                case rel => exact ⟨j + 1, by omega, by go_num, HD11⟩
                case measure => simp [intOf]; omega
              · go_wp2_with fail
                go_roundw
                case rel => exact ⟨k + 1, by omega, by go_num, _, _, HD8, HF4, HW4⟩
                case measure => simp [intOf]; omega
          · have HU : Hid (m4.up = false) := Lib.hid (by simpa using hup)
            clear hup
            go_wp2_with fail
            refine (up_pd HD6.out.disk).mono ?_
            rw [HU.out]
            rintro e w8'' ⟨rfl, rfl⟩
            have HD7 := HD6
            go_wp2_with fail
            go_loopw [16] (fun i wq => ∃ j : Nat, j ≤ 4 ∧ i = .int .i64 j ∧ Hid (DK w wq d F4 m4)) (fun i _ => 4 - (intOf i).toNat)
            case atStart => exact ⟨0, Nat.zero_le _, rfl, HD7⟩
            case round =>
              obtain ⟨j, hj4, rfl, HD8⟩ := hrel
              by_cases hj : j < 4
              · have hat := HF4.out.at_ j hj
                have HAT1 := Lib.hid hat.1
                have HAT2 := Lib.hid hat.2
                obtain ⟨bj, hbj⟩ : ∃ bj, m4.rest.getD j [] = bj := ⟨_, rfl⟩
                rw [hbj] at HAT1 HAT2
                clear hat hbj
                go_wp2_with fail
                refine (rest_pd HD8.out.disk (j : Int)).mono ?_
                rw [HAT1.out]
                rintro e w9 ⟨A9, n9, rfl, hnw, hx⟩
                have HN9 := Lib.hid hnw
                have HD9 := Lib.hid (HD8.out.ext hx)
                clear hnw hx
                go_wp2_with fail
                refine (meant_pd HD9.out.disk (j : Int)).mono ?_
                rw [HAT2.out]
                rintro e w10 ⟨A10, n10, rfl, hnw, hx⟩
                have HN10 := Lib.hid hnw
                have HN9 := Lib.hid (HN9.out.ext hx)
                have HD10 := Lib.hid (HD9.out.ext hx)
                clear hnw hx
                go_wp2_with fail
                refine (same_by A9 A10 bj bj n9 n10 n9 n10 _ HN9.out.by HN10.out.by).mono ?_
                rw [decide_eq_true (rfl : bj = bj)]
                rintro e w11 ⟨rfl, hx⟩
                have HD11 := Lib.hid (HD10.out.ext hx)
                clear hx
                go_wp2_with fail
                go_roundw
                case rel => exact ⟨j + 1, by omega, by go_num, HD11⟩
                case measure => simp [intOf]; omega
              · go_wp2_with fail
                go_roundw
                case rel => exact ⟨k + 1, by omega, by go_num, _, _, HD8, HF4, HW4⟩
                case measure => simp [intOf]; omega
        · subst e
          have HF4 := Lib.hid (HACT.out (by omega) (fun _ => e2))
          have g9 : (a.sec == (q : Int)) = false := by rw [beq_eq_false_iff_ne]; exact e2
          clear HACT
          go_wp2_with fail
          refine HDO.out.mono ?_
          rintro e w6 ⟨rfl, hd⟩
          obtain ⟨F4, hF4⟩ : ∃ F4, grow F wr w6 = F4 := ⟨_, rfl⟩
          rw [hF4] at hd
          have HD5 := Lib.hid hd
          have HAT := Lib.hid (HF4.out.at_ q HQ4.out).1
          rw [HF4.out.held] at HAT
          have HW5 : Hid (m4.waits.length ≤ 1000000) := Lib.hid (by have := HW4.out; omega)
          clear hd hc0 hc1 hc2 hc3 hc4 hF4
          go_wp2_with fail
          refine (rest_pd HD5.out.disk (q : Int)).mono ?_
          rw [HAT.out]
          rintro e w7 ⟨A7, n7, rfl, hnw, hx⟩
          have HN7 := Lib.hid hnw
          have HD6 := Lib.hid (HD5.out.ext hx)
          clear hnw hx
          go_wp2_with fail
          refine (sector_n y HY.out _).mono ?_
          rintro e w8 ⟨As8, ns8, cs8, rfl, hown, hx⟩
          have HB8 : Hid (By w8 As8 ns8 cs8 (List.replicate 64 y)) := Lib.hid (Bs.of_own hown (rep_lt y HY.out))
          have HN7 := Lib.hid (HN7.out.ext hx)
          have HD6 := Lib.hid (HD6.out.ext hx)
          clear hown hx
          go_wp2_with fail
          refine (same_by A7 As8 _ _ n7 ns8 n7 cs8 _ HN7.out.by HB8.out).mono ?_
          rw [decide_eq_true (rfl : List.replicate 64 y = List.replicate 64 y)]
          rintro e w8' ⟨rfl, hx⟩
          have HD6 := Lib.hid (HD6.out.ext hx)
          clear hx HN7 HB8
          by_cases hup : m4.up = true
          · have HU := Lib.hid hup
            have HRD := Lib.hid (decide_eq_true (HF4.out.read HQ4.out hup))
            clear hup
            go_wp2_with fail
            refine (up_pd HD6.out.disk).mono ?_
            rw [HU.out]
            rintro e w8'' ⟨rfl, rfl⟩
            go_wp2_with fail
            refine (reads_of HD6.out.disk (q : Int) y HY.out HW5.out).mono ?_
            rw [HRD.out]
            rintro e w8'' ⟨rfl, hx⟩
            have HD7 := Lib.hid (HD6.out.ext hx)
            clear hx
            go_wp2_with fail
            go_loopw [16] (fun i wq => ∃ j : Nat, j ≤ 4 ∧ i = .int .i64 j ∧ Hid (DK w wq d F4 m4)) (fun i _ => 4 - (intOf i).toNat)
            case atStart => exact ⟨0, Nat.zero_le _, rfl, HD7⟩
            case round =>
              obtain ⟨j, hj4, rfl, HD8⟩ := hrel
              by_cases hj : j < 4
              · have hat := HF4.out.at_ j hj
                have HAT1 := Lib.hid hat.1
                have HAT2 := Lib.hid hat.2
                obtain ⟨bj, hbj⟩ : ∃ bj, m4.rest.getD j [] = bj := ⟨_, rfl⟩
                rw [hbj] at HAT1 HAT2
                clear hat hbj
                go_wp2_with fail
                refine (rest_pd HD8.out.disk (j : Int)).mono ?_
                rw [HAT1.out]
                rintro e w9 ⟨A9, n9, rfl, hnw, hx⟩
                have HN9 := Lib.hid hnw
                have HD9 := Lib.hid (HD8.out.ext hx)
                clear hnw hx
                go_wp2_with fail
                refine (meant_pd HD9.out.disk (j : Int)).mono ?_
                rw [HAT2.out]
                rintro e w10 ⟨A10, n10, rfl, hnw, hx⟩
                have HN10 := Lib.hid hnw
                have HN9 := Lib.hid (HN9.out.ext hx)
                have HD10 := Lib.hid (HD9.out.ext hx)
                clear hnw hx
                go_wp2_with fail
                refine (same_by A9 A10 bj bj n9 n10 n9 n10 _ HN9.out.by HN10.out.by).mono ?_
                rw [decide_eq_true (rfl : bj = bj)]
                rintro e w11 ⟨rfl, hx⟩
                have HD11 := Lib.hid (HD10.out.ext hx)
                clear hx
                go_wp2_with fail
                go_roundw
                case rel => exact ⟨j + 1, by omega, by go_num, HD11⟩
                case measure => simp [intOf]; omega
              · go_wp2_with fail
                go_roundw
                case rel => exact ⟨k + 1, by omega, by go_num, _, _, HD8, HF4, HW4⟩
                case measure => simp [intOf]; omega
          · have HU : Hid (m4.up = false) := Lib.hid (by simpa using hup)
            clear hup
            go_wp2_with fail
            refine (up_pd HD6.out.disk).mono ?_
            rw [HU.out]
            rintro e w8'' ⟨rfl, rfl⟩
            have HD7 := HD6
            go_wp2_with fail
            go_loopw [16] (fun i wq => ∃ j : Nat, j ≤ 4 ∧ i = .int .i64 j ∧ Hid (DK w wq d F4 m4)) (fun i _ => 4 - (intOf i).toNat)
            case atStart => exact ⟨0, Nat.zero_le _, rfl, HD7⟩
            case round =>
              obtain ⟨j, hj4, rfl, HD8⟩ := hrel
              by_cases hj : j < 4
              · have hat := HF4.out.at_ j hj
                have HAT1 := Lib.hid hat.1
                have HAT2 := Lib.hid hat.2
                obtain ⟨bj, hbj⟩ : ∃ bj, m4.rest.getD j [] = bj := ⟨_, rfl⟩
                rw [hbj] at HAT1 HAT2
                clear hat hbj
                go_wp2_with fail
                refine (rest_pd HD8.out.disk (j : Int)).mono ?_
                rw [HAT1.out]
                rintro e w9 ⟨A9, n9, rfl, hnw, hx⟩
                have HN9 := Lib.hid hnw
                have HD9 := Lib.hid (HD8.out.ext hx)
                clear hnw hx
                go_wp2_with fail
                refine (meant_pd HD9.out.disk (j : Int)).mono ?_
                rw [HAT2.out]
                rintro e w10 ⟨A10, n10, rfl, hnw, hx⟩
                have HN10 := Lib.hid hnw
                have HN9 := Lib.hid (HN9.out.ext hx)
                have HD10 := Lib.hid (HD9.out.ext hx)
                clear hnw hx
                go_wp2_with fail
                refine (same_by A9 A10 bj bj n9 n10 n9 n10 _ HN9.out.by HN10.out.by).mono ?_
                rw [decide_eq_true (rfl : bj = bj)]
                rintro e w11 ⟨rfl, hx⟩
                have HD11 := Lib.hid (HD10.out.ext hx)
                clear hx
                go_wp2_with fail
                go_roundw
                case rel => exact ⟨j + 1, by omega, by go_num, HD11⟩
                case measure => simp [intOf]; omega
              · go_wp2_with fail
                go_roundw
                case rel => exact ⟨k + 1, by omega, by go_num, _, _, HD8, HF4, HW4⟩
                case measure => simp [intOf]; omega
        · subst e
          have HF4 := Lib.hid (HACT.out (by omega) (fun _ => e2))
          have g9 : (a.sec == (q : Int)) = false := by rw [beq_eq_false_iff_ne]; exact e2
          clear HACT
          go_wp2_with fail
          refine HDO.out.mono ?_
          rintro e w6 ⟨rfl, hd⟩
          obtain ⟨F4, hF4⟩ : ∃ F4, grow F wr w6 = F4 := ⟨_, rfl⟩
          rw [hF4] at hd
          have HD5 := Lib.hid hd
          have HAT := Lib.hid (HF4.out.at_ q HQ4.out).1
          rw [HF4.out.held] at HAT
          have HW5 : Hid (m4.waits.length ≤ 1000000) := Lib.hid (by have := HW4.out; omega)
          clear hd hc0 hc1 hc2 hc3 hc4 hF4
          go_wp2_with fail
          refine (rest_pd HD5.out.disk (q : Int)).mono ?_
          rw [HAT.out]
          rintro e w7 ⟨A7, n7, rfl, hnw, hx⟩
          have HN7 := Lib.hid hnw
          have HD6 := Lib.hid (HD5.out.ext hx)
          clear hnw hx
          go_wp2_with fail
          refine (sector_n y HY.out _).mono ?_
          rintro e w8 ⟨As8, ns8, cs8, rfl, hown, hx⟩
          have HB8 : Hid (By w8 As8 ns8 cs8 (List.replicate 64 y)) := Lib.hid (Bs.of_own hown (rep_lt y HY.out))
          have HN7 := Lib.hid (HN7.out.ext hx)
          have HD6 := Lib.hid (HD6.out.ext hx)
          clear hown hx
          go_wp2_with fail
          refine (same_by A7 As8 _ _ n7 ns8 n7 cs8 _ HN7.out.by HB8.out).mono ?_
          rw [decide_eq_true (rfl : List.replicate 64 y = List.replicate 64 y)]
          rintro e w8' ⟨rfl, hx⟩
          have HD6 := Lib.hid (HD6.out.ext hx)
          clear hx HN7 HB8
          by_cases hup : m4.up = true
          · have HU := Lib.hid hup
            have HRD := Lib.hid (decide_eq_true (HF4.out.read HQ4.out hup))
            clear hup
            go_wp2_with fail
            refine (up_pd HD6.out.disk).mono ?_
            rw [HU.out]
            rintro e w8'' ⟨rfl, rfl⟩
            go_wp2_with fail
            refine (reads_of HD6.out.disk (q : Int) y HY.out HW5.out).mono ?_
            rw [HRD.out]
            rintro e w8'' ⟨rfl, hx⟩
            have HD7 := Lib.hid (HD6.out.ext hx)
            clear hx
            go_wp2_with fail
            go_loopw [16] (fun i wq => ∃ j : Nat, j ≤ 4 ∧ i = .int .i64 j ∧ Hid (DK w wq d F4 m4)) (fun i _ => 4 - (intOf i).toNat)
            case atStart => exact ⟨0, Nat.zero_le _, rfl, HD7⟩
            case round =>
              obtain ⟨j, hj4, rfl, HD8⟩ := hrel
              by_cases hj : j < 4
              · have hat := HF4.out.at_ j hj
                have HAT1 := Lib.hid hat.1
                have HAT2 := Lib.hid hat.2
                obtain ⟨bj, hbj⟩ : ∃ bj, m4.rest.getD j [] = bj := ⟨_, rfl⟩
                rw [hbj] at HAT1 HAT2
                clear hat hbj
                go_wp2_with fail
                refine (rest_pd HD8.out.disk (j : Int)).mono ?_
                rw [HAT1.out]
                rintro e w9 ⟨A9, n9, rfl, hnw, hx⟩
                have HN9 := Lib.hid hnw
                have HD9 := Lib.hid (HD8.out.ext hx)
                clear hnw hx
                go_wp2_with fail
                refine (meant_pd HD9.out.disk (j : Int)).mono ?_
                rw [HAT2.out]
                rintro e w10 ⟨A10, n10, rfl, hnw, hx⟩
                have HN10 := Lib.hid hnw
                have HN9 := Lib.hid (HN9.out.ext hx)
                have HD10 := Lib.hid (HD9.out.ext hx)
                clear hnw hx
                go_wp2_with fail
                refine (same_by A9 A10 bj bj n9 n10 n9 n10 _ HN9.out.by HN10.out.by).mono ?_
                rw [decide_eq_true (rfl : bj = bj)]
                rintro e w11 ⟨rfl, hx⟩
                have HD11 := Lib.hid (HD10.out.ext hx)
                clear hx
                go_wp2_with fail
                go_roundw
                case rel => exact ⟨j + 1, by omega, by go_num, HD11⟩
                case measure => simp [intOf]; omega
              · go_wp2_with fail
                go_roundw
                case rel => exact ⟨k + 1, by omega, by go_num, _, _, HD8, HF4, HW4⟩
                case measure => simp [intOf]; omega
          · have HU : Hid (m4.up = false) := Lib.hid (by simpa using hup)
            clear hup
            go_wp2_with fail
            refine (up_pd HD6.out.disk).mono ?_
            rw [HU.out]
            rintro e w8'' ⟨rfl, rfl⟩
            have HD7 := HD6
            go_wp2_with fail
            go_loopw [16] (fun i wq => ∃ j : Nat, j ≤ 4 ∧ i = .int .i64 j ∧ Hid (DK w wq d F4 m4)) (fun i _ => 4 - (intOf i).toNat)
            case atStart => exact ⟨0, Nat.zero_le _, rfl, HD7⟩
            case round =>
              obtain ⟨j, hj4, rfl, HD8⟩ := hrel
              by_cases hj : j < 4
              · have hat := HF4.out.at_ j hj
                have HAT1 := Lib.hid hat.1
                have HAT2 := Lib.hid hat.2
                obtain ⟨bj, hbj⟩ : ∃ bj, m4.rest.getD j [] = bj := ⟨_, rfl⟩
                rw [hbj] at HAT1 HAT2
                clear hat hbj
                go_wp2_with fail
                refine (rest_pd HD8.out.disk (j : Int)).mono ?_
                rw [HAT1.out]
                rintro e w9 ⟨A9, n9, rfl, hnw, hx⟩
                have HN9 := Lib.hid hnw
                have HD9 := Lib.hid (HD8.out.ext hx)
                clear hnw hx
                go_wp2_with fail
                refine (meant_pd HD9.out.disk (j : Int)).mono ?_
                rw [HAT2.out]
                rintro e w10 ⟨A10, n10, rfl, hnw, hx⟩
                have HN10 := Lib.hid hnw
                have HN9 := Lib.hid (HN9.out.ext hx)
                have HD10 := Lib.hid (HD9.out.ext hx)
                clear hnw hx
                go_wp2_with fail
                refine (same_by A9 A10 bj bj n9 n10 n9 n10 _ HN9.out.by HN10.out.by).mono ?_
                rw [decide_eq_true (rfl : bj = bj)]
                rintro e w11 ⟨rfl, hx⟩
                have HD11 := Lib.hid (HD10.out.ext hx)
                clear hx
                go_wp2_with fail
                go_roundw
                case rel => exact ⟨j + 1, by omega, by go_num, HD11⟩
                case measure => simp [intOf]; omega
              · go_wp2_with fail
                go_roundw
                case rel => exact ⟨k + 1, by omega, by go_num, _, _, HD8, HF4, HW4⟩
                case measure => simp [intOf]; omega
      · go_wp2_with fail
        go_ret
        exact ⟨rfl, HD3.out.bel⟩
end Go.Proofs.Ytmfbeglidhejkaa
