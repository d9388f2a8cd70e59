/-
  DiskDown: a disk that is down.
-/
import Derived.Test.YtmfbeglidhejkaaKAwake
import Derived.Test.YtmfbeglidhejkaaKDoor
import Derived.Test.YtmfbeglidhejkaaKGreat
import Derived.Test.YtmfbeglidhejkaaDDown
import Derived.Test.YtmfbeglidhejkaaWMod
import Derived.Test.YtmfbeglidhejkaaTol
import Derived.Deep.RegionHeld3
namespace Go.Proofs.Ytmfbeglidhejkaa
open Go Go.RowKit

theorem start_waits' (m : DM) : m.start.2.waits = m.waits := by
  unfold DM.start
  split <;> rfl

set_option maxRecDepth 100000 in
set_option maxHeartbeats 6400000 in
theorem diskDown_law (A : Option Addr) (n c : Nat) (l : List Act5) (z : Int) (w : World) (ha : Acts w w.heap.size A n c l) (_ : (Lit.int .i64 z).wf = true) :
    Calls Try.prog 8 #[.slice A n c, .int .i64 z] w fun e w' => e = .returned (.bool true) ∧ Ext w w' := by
  have HA := Lib.hid ha
  have hn : 0 ≤ n := Nat.zero_le _
  obtain ⟨q, hq4, hwq⟩ := wrap_mod z 4 (by omega) (by omega)
  have hwq : wrap64 ((IntKind.u64.wrap z).tmod 4) = (q : Int) := hwq
  have HQ4 := Lib.hid hq4
  clear ha hq4
  go_enter Try.func8, Try.ntmps8
  go_wp2_with fail
  refine (kawake_any w).mono ?_
  rintro e w1 ⟨rfl, hx⟩
  have HE := Lib.hid hx
  clear hx
  go_wp2_with fail
  refine (great_of A n c l ((HA.out.below HE.out).more HE.out.size)).mono ?_
  rintro e w1' ⟨b, rfl, rfl, hg⟩
  cases b with
  | true =>
    go_wp2_with fail
    go_ret
    exact ⟨rfl, HE.out⟩
  | false =>
    have HG := Lib.hid (hg rfl)
    have hn120 : n ≤ 120 := (hg rfl).1
    clear hg
    go_wp2_with fail
    refine (new_pdk 4 _ (by omega) (by omega)).mono ?_
    rintro e w2 ⟨d, rfl, hp, hx⟩
    have HD : Hid (DK w w2 d _ (DM.new 4)) := Lib.hid ⟨hp, fun k hk => Nat.le_trans HE.out.size hk.1, HE.out.trans hx⟩
    clear hp hx
    go_wp2_with fail
    go_loopw [7] (fun i wr => ∃ k : Nat, k ≤ n ∧ i = .int .i64 k ∧ ∃ (F : Nat → Prop) (m : DM), Hid (DK w wr d F m) ∧ Hid (WInv m k)) (fun i _ => n - (intOf i).toNat)
    case atStart => exact ⟨0, Nat.zero_le _, rfl, _, _, HD, Lib.hid WInv.new⟩
    case round =>
      obtain ⟨k, hkn, rfl, F, m3, HD3, HW3⟩ := hrel
      by_cases hlt : k < n
      · obtain ⟨g, o, a, rfl, hg, hal, hok, h0, h1, h2, h3, h4⟩ := HA.out.at_ hlt
        have hc0 := (HD3.out.bel.cell (p := ⟨g, o + k * 5, none⟩) hg).trans h0
        have hc1 := (HD3.out.bel.cell (p := ⟨g, o + k * 5 + 1, none⟩) hg).trans h1
        have hc2 := (HD3.out.bel.cell (p := ⟨g, o + k * 5 + 2, none⟩) hg).trans h2
        have hc3 := (HD3.out.bel.cell (p := ⟨g, o + k * 5 + 3, none⟩) hg).trans h3
        have hc4 := (HD3.out.bel.cell (p := ⟨g, o + k * 5 + 4, none⟩) hg).trans h4
        have HDO := Lib.hid (do_dk HD3.out a hok (HG.out.2 a (List.mem_of_getElem? hal)).1 (by have := HW3.out.few; have := HG.out.1; omega))
        clear h0 h1 h2 h3 h4 hal hok
        go_wp2_with fail
        refine HDO.out.mono ?_
        rintro e w4 ⟨rfl, hd⟩
        have HD4 := Lib.hid hd
        clear hd hc0 hc1 hc2 hc3 hc4
        go_wp2_with fail
        go_roundw
        case rel => exact ⟨k + 1, by omega, by go_num, _, _, HD4, Lib.hid (HW3.out.act _ _ _ _ _)⟩
        case measure => simp [intOf]; omega
      · by_cases hup : m3.up = true
        · have HC := Lib.hid (crash_up hup [])
          have HU := Lib.hid hup
          clear hup
          go_wp2_with fail
          refine (up_pd HD3.out.disk).mono ?_
          rw [HU.out]
          rintro e w4' ⟨rfl, rfl⟩
          go_wp2_with fail
          refine (crash_pd HD3.out.disk none 0 0 [] (keep_nil _ _) (fun _ => off_none _)).mono ?_
          unfold Outc
          rw [HC.out]
          rintro e w4 ⟨rfl, hp, hm⟩
          obtain ⟨m4, hm4⟩ : ∃ m4, (m3.crash []).2 = m4 := ⟨_, rfl⟩
          have hD := HD3.out.step hp hm
          have hW := (crash_down HW3.out []).1
          rw [hm4] at hD hW
          have HD4 := Lib.hid hD
          have HW4 := Lib.hid hW
          clear hp hm hD hW hm4 HC HU
          go_wp2_with fail
          refine (crash_pd HD4.out.disk none 0 0 [] (keep_nil _ _) (fun _ => off_none _)).mono ?_
          unfold Outc
          rintro e w5 ⟨rfl, hp, hm⟩
          obtain ⟨m2, hm2⟩ : ∃ m2, (m4.crash []).2 = m2 := ⟨_, rfl⟩
          have hD := HD4.out.step hp hm
          have hW := crash_down HW4.out []
          rw [hm2] at hD hW
          have HD := Lib.hid hD
          have HDW := Lib.hid (Downs.of hW.1 hW.2 HQ4.out)
          have HZ := Lib.hid (hW.1.down hW.2)
          obtain ⟨x3, hx3⟩ : ∃ x3, (m4.crash []).1 = x3 := ⟨_, rfl⟩
          rw [hx3]
          have HF2 : Hid (m2.waits.length ≤ 1000000) := Lib.hid (by rw [HZ.out]; exact Nat.zero_le _)
          have HF3 : Hid (m2.start.2.waits.length ≤ 1000000) := Lib.hid (by rw [start_waits', HZ.out]; exact Nat.zero_le _)
          clear hp hm hD hW hm2 hx3
          rcases HDW.out.comes with ⟨hat, hrd⟩ | ⟨b, hat, hrd⟩
          · have HAT := Lib.hid hat
            have HRD := Lib.hid hrd
            clear hat hrd
            go_wp2_with fail
            refine (rest_pd HD.out.disk (q : Int)).mono ?_
            rw [HAT.out]
            rintro e w6 ⟨A6, n6, rfl, hnw, hx⟩
            have HD := Lib.hid (HD.out.ext hx)
            clear hnw hx
            go_wp2_with fail
            refine (read_pd HD.out.disk (q : Int) HF2.out).mono ?_
            rw [HDW.out.read]
            rintro e w7 ⟨A7, n7, rfl, hnw, hx⟩
            have HD := Lib.hid (HD.out.ext hx)
            clear hnw hx
            go_wp2_with fail
            refine (sector_n 0 (by omega) _).mono ?_
            rintro e w8 ⟨As, ns, cs, rfl, hown, hx⟩
            have HOF := Lib.hid (HD.out.fresh hown)
            have HBY : Hid (By w8 As ns cs (List.replicate 64 0)) := Lib.hid (Bs.of_own hown (rep_lt 0 (by omega)))
            have HD := Lib.hid (HD.out.ext hx)
            clear hown hx
            go_wp2_with fail
            refine (write_pd HD.out.disk (q : Int) As ns cs (List.replicate 64 0) HBY.out HOF.out HF2.out).mono ?_
            unfold Outc
            rw [HDW.out.write]
            rintro e w9 ⟨rfl, hp, hm⟩
            have HD := Lib.hid (HD.out.step hp hm)
            clear hp hm
            clear HBY HOF
            go_wp2_with fail
            refine (flush_pd HD.out.disk).mono ?_
            unfold Outc
            rw [HDW.out.flush]
            rintro e w10 ⟨rfl, hp, hm⟩
            have HD := Lib.hid (HD.out.step hp hm)
            clear hp hm
            go_wp2_with fail
            refine (crash_pd HD.out.disk none 0 0 [] (keep_nil _ _) (fun _ => off_none _)).mono ?_
            unfold Outc
            rw [HDW.out.crash]
            rintro e w11 ⟨rfl, hp, hm⟩
            have HD := Lib.hid (HD.out.step hp hm)
            clear hp hm
            go_wp2_with fail
            refine (waits_pd HD.out.disk).mono ?_
            rw [HZ.out]
            rintro e w11' ⟨rfl, rfl⟩
            go_wp2_with fail
            refine (start_pd HD.out.disk).mono ?_
            unfold Outc
            rw [HDW.out.start]
            rintro e w12 ⟨rfl, hp, hm⟩
            have HD := Lib.hid (HD.out.step hp hm)
            clear hp hm
            go_wp2_with fail
            refine (start_pd HD.out.disk).mono ?_
            unfold Outc
            rw [HDW.out.again]
            rintro e w13 ⟨rfl, hp, hm⟩
            have HD := Lib.hid (HD.out.step hp hm)
            clear hp hm
            go_wp2_with fail
            refine (up_pd HD.out.disk).mono ?_
            rw [HDW.out.up]
            rintro e w13' ⟨rfl, rfl⟩
            go_wp2_with fail
            refine (read_pd HD.out.disk (q : Int) HF3.out).mono ?_
            rw [HRD.out]
            rintro e w14 ⟨A14, n14, rfl, hnw, hx⟩
            have HD := Lib.hid (HD.out.ext hx)
            clear hnw hx
            go_wp2_with fail
            go_ret
            exact ⟨rfl, HD.out.bel⟩
          · have HAT := Lib.hid hat
            have HRD := Lib.hid hrd
            clear hat hrd
            go_wp2_with fail
            refine (rest_pd HD.out.disk (q : Int)).mono ?_
            rw [HAT.out]
            rintro e w6 ⟨A6, n6, rfl, hnw, hx⟩
            have HN6 := Lib.hid (Tol.of hnw HD.out.disk.lt)
            have HD := Lib.hid (HD.out.ext hx)
            clear hnw hx
            go_wp2_with fail
            refine (read_pd HD.out.disk (q : Int) HF2.out).mono ?_
            rw [HDW.out.read]
            rintro e w7 ⟨A7, n7, rfl, hnw, hx⟩
            have HN6 := Lib.hid (HN6.out.ext hx)
            have HD := Lib.hid (HD.out.ext hx)
            clear hnw hx
            go_wp2_with fail
            refine (sector_n 0 (by omega) _).mono ?_
            rintro e w8 ⟨As, ns, cs, rfl, hown, hx⟩
            have HOF := Lib.hid (HD.out.fresh hown)
            have HBY : Hid (By w8 As ns cs (List.replicate 64 0)) := Lib.hid (Bs.of_own hown (rep_lt 0 (by omega)))
            have HN6 := Lib.hid (HN6.out.ext hx)
            have HD := Lib.hid (HD.out.ext hx)
            clear hown hx
            go_wp2_with fail
            refine (write_pd HD.out.disk (q : Int) As ns cs (List.replicate 64 0) HBY.out HOF.out HF2.out).mono ?_
            unfold Outc
            rw [HDW.out.write]
            rintro e w9 ⟨rfl, hp, hm⟩
            have HN6 := Lib.hid (HN6.out.step hm)
            have HD := Lib.hid (HD.out.step hp hm)
            clear hp hm
            clear HBY HOF
            go_wp2_with fail
            refine (flush_pd HD.out.disk).mono ?_
            unfold Outc
            rw [HDW.out.flush]
            rintro e w10 ⟨rfl, hp, hm⟩
            have HN6 := Lib.hid (HN6.out.step hm)
            have HD := Lib.hid (HD.out.step hp hm)
            clear hp hm
            go_wp2_with fail
            refine (crash_pd HD.out.disk none 0 0 [] (keep_nil _ _) (fun _ => off_none _)).mono ?_
            unfold Outc
            rw [HDW.out.crash]
            rintro e w11 ⟨rfl, hp, hm⟩
            have HN6 := Lib.hid (HN6.out.step hm)
            have HD := Lib.hid (HD.out.step hp hm)
            clear hp hm
            go_wp2_with fail
            refine (waits_pd HD.out.disk).mono ?_
            rw [HZ.out]
            rintro e w11' ⟨rfl, rfl⟩
            go_wp2_with fail
            refine (start_pd HD.out.disk).mono ?_
            unfold Outc
            rw [HDW.out.start]
            rintro e w12 ⟨rfl, hp, hm⟩
            have HN6 := Lib.hid (HN6.out.step hm)
            have HD := Lib.hid (HD.out.step hp hm)
            clear hp hm
            go_wp2_with fail
            refine (start_pd HD.out.disk).mono ?_
            unfold Outc
            rw [HDW.out.again]
            rintro e w13 ⟨rfl, hp, hm⟩
            have HN6 := Lib.hid (HN6.out.step hm)
            have HD := Lib.hid (HD.out.step hp hm)
            clear hp hm
            go_wp2_with fail
            refine (up_pd HD.out.disk).mono ?_
            rw [HDW.out.up]
            rintro e w13' ⟨rfl, rfl⟩
            go_wp2_with fail
            refine (read_pd HD.out.disk (q : Int) HF3.out).mono ?_
            rw [HRD.out]
            rintro e w14 ⟨A14, n14, rfl, hnw, hx⟩
            have HN6 := Lib.hid (HN6.out.ext hx)
            have HN14 := Lib.hid hnw
            have HD := Lib.hid (HD.out.ext hx)
            clear hnw hx
            go_wp2_with fail
            refine (same_by A14 A6 b b n14 n6 n14 n6 _ HN14.out.by HN6.out.new.by).mono ?_
            rw [decide_eq_true (rfl : b = b)]
            rintro e w15 ⟨rfl, hx⟩
            have HD := Lib.hid (HD.out.ext hx)
            clear hx
            go_wp2_with fail
            go_ret
            exact ⟨rfl, HD.out.bel⟩
        · have HU : Hid (m3.up = false) := Lib.hid (by simpa using hup)
          clear hup
          go_wp2_with fail
          refine (up_pd HD3.out.disk).mono ?_
          rw [HU.out]
          rintro e w4' ⟨rfl, rfl⟩
          clear HU
          go_wp2_with fail
          refine (crash_pd HD3.out.disk none 0 0 [] (keep_nil _ _) (fun _ => off_none _)).mono ?_
          unfold Outc
          rintro e w5 ⟨rfl, hp, hm⟩
          obtain ⟨m2, hm2⟩ : ∃ m2, (m3.crash []).2 = m2 := ⟨_, rfl⟩
          have hD := HD3.out.step hp hm
          have hW := crash_down HW3.out []
          rw [hm2] at hD hW
          have HD := Lib.hid hD
          have HDW := Lib.hid (Downs.of hW.1 hW.2 HQ4.out)
          have HZ := Lib.hid (hW.1.down hW.2)
          obtain ⟨x3, hx3⟩ : ∃ x3, (m3.crash []).1 = x3 := ⟨_, rfl⟩
          rw [hx3]
          have HF2 : Hid (m2.waits.length ≤ 1000000) := Lib.hid (by rw [HZ.out]; exact Nat.zero_le _)
          have HF3 : Hid (m2.start.2.waits.length ≤ 1000000) := Lib.hid (by rw [start_waits', HZ.out]; exact Nat.zero_le _)
          clear hp hm hD hW hm2 hx3
          rcases HDW.out.comes with ⟨hat, hrd⟩ | ⟨b, hat, hrd⟩
          · have HAT := Lib.hid hat
            have HRD := Lib.hid hrd
            clear hat hrd
            go_wp2_with fail
            refine (rest_pd HD.out.disk (q : Int)).mono ?_
            rw [HAT.out]
            rintro e w6 ⟨A6, n6, rfl, hnw, hx⟩
            have HD := Lib.hid (HD.out.ext hx)
            clear hnw hx
            go_wp2_with fail
            refine (read_pd HD.out.disk (q : Int) HF2.out).mono ?_
            rw [HDW.out.read]
            rintro e w7 ⟨A7, n7, rfl, hnw, hx⟩
            have HD := Lib.hid (HD.out.ext hx)
            clear hnw hx
            go_wp2_with fail
            refine (sector_n 0 (by omega) _).mono ?_
            rintro e w8 ⟨As, ns, cs, rfl, hown, hx⟩
            have HOF := Lib.hid (HD.out.fresh hown)
            have HBY : Hid (By w8 As ns cs (List.replicate 64 0)) := Lib.hid (Bs.of_own hown (rep_lt 0 (by omega)))
            have HD := Lib.hid (HD.out.ext hx)
            clear hown hx
            go_wp2_with fail
            refine (write_pd HD.out.disk (q : Int) As ns cs (List.replicate 64 0) HBY.out HOF.out HF2.out).mono ?_
            unfold Outc
            rw [HDW.out.write]
            rintro e w9 ⟨rfl, hp, hm⟩
            have HD := Lib.hid (HD.out.step hp hm)
            clear hp hm
            clear HBY HOF
            go_wp2_with fail
            refine (flush_pd HD.out.disk).mono ?_
            unfold Outc
            rw [HDW.out.flush]
            rintro e w10 ⟨rfl, hp, hm⟩
            have HD := Lib.hid (HD.out.step hp hm)
            clear hp hm
            go_wp2_with fail
            refine (crash_pd HD.out.disk none 0 0 [] (keep_nil _ _) (fun _ => off_none _)).mono ?_
            unfold Outc
            rw [HDW.out.crash]
            rintro e w11 ⟨rfl, hp, hm⟩
            have HD := Lib.hid (HD.out.step hp hm)
            clear hp hm
            go_wp2_with fail
            refine (waits_pd HD.out.disk).mono ?_
            rw [HZ.out]
            rintro e w11' ⟨rfl, rfl⟩
            go_wp2_with fail
            refine (start_pd HD.out.disk).mono ?_
            unfold Outc
            rw [HDW.out.start]
            rintro e w12 ⟨rfl, hp, hm⟩
            have HD := Lib.hid (HD.out.step hp hm)
            clear hp hm
            go_wp2_with fail
            refine (start_pd HD.out.disk).mono ?_
            unfold Outc
            rw [HDW.out.again]
            rintro e w13 ⟨rfl, hp, hm⟩
            have HD := Lib.hid (HD.out.step hp hm)
            clear hp hm
            go_wp2_with fail
            refine (up_pd HD.out.disk).mono ?_
            rw [HDW.out.up]
            rintro e w13' ⟨rfl, rfl⟩
            go_wp2_with fail
            refine (read_pd HD.out.disk (q : Int) HF3.out).mono ?_
            rw [HRD.out]
            rintro e w14 ⟨A14, n14, rfl, hnw, hx⟩
            have HD := Lib.hid (HD.out.ext hx)
            clear hnw hx
            go_wp2_with fail
            go_ret
            exact ⟨rfl, HD.out.bel⟩
          · have HAT := Lib.hid hat
            have HRD := Lib.hid hrd
            clear hat hrd
            go_wp2_with fail
            refine (rest_pd HD.out.disk (q : Int)).mono ?_
            rw [HAT.out]
            rintro e w6 ⟨A6, n6, rfl, hnw, hx⟩
            have HN6 := Lib.hid (Tol.of hnw HD.out.disk.lt)
            have HD := Lib.hid (HD.out.ext hx)
            clear hnw hx
            go_wp2_with fail
            refine (read_pd HD.out.disk (q : Int) HF2.out).mono ?_
            rw [HDW.out.read]
            rintro e w7 ⟨A7, n7, rfl, hnw, hx⟩
            have HN6 := Lib.hid (HN6.out.ext hx)
            have HD := Lib.hid (HD.out.ext hx)
            clear hnw hx
            go_wp2_with fail
            refine (sector_n 0 (by omega) _).mono ?_
            rintro e w8 ⟨As, ns, cs, rfl, hown, hx⟩
            have HOF := Lib.hid (HD.out.fresh hown)
            have HBY : Hid (By w8 As ns cs (List.replicate 64 0)) := Lib.hid (Bs.of_own hown (rep_lt 0 (by omega)))
            have HN6 := Lib.hid (HN6.out.ext hx)
            have HD := Lib.hid (HD.out.ext hx)
            clear hown hx
            go_wp2_with fail
            refine (write_pd HD.out.disk (q : Int) As ns cs (List.replicate 64 0) HBY.out HOF.out HF2.out).mono ?_
            unfold Outc
            rw [HDW.out.write]
            rintro e w9 ⟨rfl, hp, hm⟩
            have HN6 := Lib.hid (HN6.out.step hm)
            have HD := Lib.hid (HD.out.step hp hm)
            clear hp hm
            clear HBY HOF
            go_wp2_with fail
            refine (flush_pd HD.out.disk).mono ?_
            unfold Outc
            rw [HDW.out.flush]
            rintro e w10 ⟨rfl, hp, hm⟩
            have HN6 := Lib.hid (HN6.out.step hm)
            have HD := Lib.hid (HD.out.step hp hm)
            clear hp hm
            go_wp2_with fail
            refine (crash_pd HD.out.disk none 0 0 [] (keep_nil _ _) (fun _ => off_none _)).mono ?_
            unfold Outc
            rw [HDW.out.crash]
            rintro e w11 ⟨rfl, hp, hm⟩
            have HN6 := Lib.hid (HN6.out.step hm)
            have HD := Lib.hid (HD.out.step hp hm)
            clear hp hm
            go_wp2_with fail
            refine (waits_pd HD.out.disk).mono ?_
            rw [HZ.out]
            rintro e w11' ⟨rfl, rfl⟩
            go_wp2_with fail
            refine (start_pd HD.out.disk).mono ?_
            unfold Outc
            rw [HDW.out.start]
            rintro e w12 ⟨rfl, hp, hm⟩
            have HN6 := Lib.hid (HN6.out.step hm)
            have HD := Lib.hid (HD.out.step hp hm)
            clear hp hm
            go_wp2_with fail
            refine (start_pd HD.out.disk).mono ?_
            unfold Outc
            rw [HDW.out.again]
            rintro e w13 ⟨rfl, hp, hm⟩
            have HN6 := Lib.hid (HN6.out.step hm)
            have HD := Lib.hid (HD.out.step hp hm)
            clear hp hm
            go_wp2_with fail
            refine (up_pd HD.out.disk).mono ?_
            rw [HDW.out.up]
            rintro e w13' ⟨rfl, rfl⟩
            go_wp2_with fail
            refine (read_pd HD.out.disk (q : Int) HF3.out).mono ?_
            rw [HRD.out]
            rintro e w14 ⟨A14, n14, rfl, hnw, hx⟩
            have HN6 := Lib.hid (HN6.out.ext hx)
            have HN14 := Lib.hid hnw
            have HD := Lib.hid (HD.out.ext hx)
            clear hnw hx
            go_wp2_with fail
            refine (same_by A14 A6 b b n14 n6 n14 n6 _ HN14.out.by HN6.out.new.by).mono ?_
            rw [decide_eq_true (rfl : b = b)]
            rintro e w15 ⟨rfl, hx⟩
            have HD := Lib.hid (HD.out.ext hx)
            clear hx
            go_wp2_with fail
            go_ret
            exact ⟨rfl, HD.out.bel⟩
end Go.Proofs.Ytmfbeglidhejkaa
