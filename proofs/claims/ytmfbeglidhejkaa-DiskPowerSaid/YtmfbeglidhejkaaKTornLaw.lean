/-
  DiskTorn: what a crash leaves of the writes that waited.
-/
import Derived.Test.YtmfbeglidhejkaaKAwake
import Derived.Test.YtmfbeglidhejkaaKDoor
import Derived.Test.YtmfbeglidhejkaaDTorn
import Derived.Test.YtmfbeglidhejkaaRow4
import Derived.Deep.RegionHeld3
namespace Go.Proofs.Ytmfbeglidhejkaa
open Go Go.RowKit

theorem start_waits (m : DM) : m.start.2.waits = m.waits := by
  unfold DM.start
  split <;> rfl
/-- The list at a place that is within it. -/
theorem bs_cell {w : World} {B : Nat} {A : Option Addr} {n c : Nat} {l : List Nat} (h : Bs w B A n c l) {i : Nat} (hi : i < n) : ∃ g o x, A = some ⟨g, o, none⟩ ∧ g < B ∧ l[i]? = some x ∧ x < 256 ∧ w.cell? ⟨g, o + i, none⟩ = some (.int .u8 (x : Int)) := by
  obtain ⟨g, o, e, hg, hc⟩ := h.rd.2 (by rw [h.len]; omega)
  have hl : i < l.length := by rw [h.len]; exact hi
  exact ⟨g, o, l[i], e, hg, List.getElem?_eq_getElem hl, h.rd.1 _ (List.getElem_mem hl), hc i _ (List.getElem?_eq_getElem hl)⟩
theorem vs_cell {w : World} {B : Nat} {A : Option Addr} {n c : Nat} {l : List Bool} (h : Vs w B A n c (l.map .bool)) {i : Nat} (hi : i < n) : ∃ g o b, A = some ⟨g, o, none⟩ ∧ g < B ∧ l[i]? = some b ∧ w.cell? ⟨g, o + i, none⟩ = some (.bool b) := by
  obtain ⟨g, o, e, hg, hc⟩ := h.rd (by omega)
  have hl : i < l.length := by have := h.len; rw [List.length_map] at this; omega
  exact ⟨g, o, l[i], e, hg, List.getElem?_eq_getElem hl, hc i _ (by rw [List.getElem?_map, List.getElem?_eq_getElem hl]; rfl)⟩

theorem keep_cell {w w' : World} {g i : Nat} {v : Value} (h : Hid (Ext w w')) (hg : g < w.heap.size) (hc : w.cell? ⟨g, i, none⟩ = some v) : w'.cell? ⟨g, i, none⟩ = some v := (Below.cell h.out (p := ⟨g, i, none⟩) hg).trans hc

set_option maxRecDepth 100000 in
set_option maxHeartbeats 6400000 in
theorem diskTorn_law (A : Option Addr) (n c : Nat) (l : List Nat) (A1 : Option Addr) (n1 c1 : Nat) (kl : List Bool) (w : World) (hb : Bs w w.heap.size A n c l) (hk : Vs w w.heap.size A1 n1 c1 (kl.map .bool)) :
    Calls Try.prog 6 #[.slice A n c, .slice A1 n1 c1] w fun e w' => e = .returned (.bool true) ∧ Ext w w' := by
  have HB := Lib.hid hb
  have HK := Lib.hid hk
  have hn : 0 ≤ n := Nat.zero_le _
  clear hb hk
  go_enter Try.func6, Try.ntmps6
  go_wp2_with fail
  refine (kawake_any w).mono ?_
  rintro e w1 ⟨rfl, hx⟩
  have HE := Lib.hid hx
  clear hx
  by_cases hn40 : 40 < n
  · go_wp2_with fail
    go_ret
    exact ⟨rfl, HE.out⟩
  by_cases hn100 : 100 < n1
  · go_wp2_with fail
    go_ret
    exact ⟨rfl, HE.out⟩
  go_wp2_with fail
  refine (new_pdk 4 _ (by omega) (by omega)).mono ?_
  rintro e w2 ⟨d, rfl, hp, hx⟩
  have HD : Hid (DK w w2 d _ (TD l 0)) := Lib.hid ⟨hp, fun k hk => Nat.le_trans HE.out.size hk.1, HE.out.trans hx⟩
  clear hp hx
  go_wp2_with fail
  have HE2 := Lib.hid ((Ext.refl w2).alloc (.cells #[.int .i64 0, .int .i64 0, .int .i64 0, .int .i64 0] 62))
  go_loopw [8] (fun i wr => ∃ k : Nat, k ≤ n ∧ i = .int .i64 k ∧ (∃ F : Nat → Prop, Hid (DK w wr d F (TD l k)) ∧ Hid (¬ F w2.heap.size)) ∧ Hid (Row4 wr w2.heap.size (lastOf l kl k))) (fun i _ => n - (intOf i).toNat)
  case atStart => exact ⟨0, Nat.zero_le _, rfl, ⟨_, Lib.hid (HD.out.ext HE2.out), Lib.hid fun h => Nat.lt_irrefl _ h.2⟩, Lib.hid (heap_alloc_new w2 _)⟩
  case round =>
    obtain ⟨k, hkn, rfl, ⟨F, HDk, HF⟩, HR⟩ := hrel
    by_cases hlt : k < n
    · obtain ⟨g, o, x, rfl, hg, hx, hx2, hc⟩ := bs_cell HB.out hlt
      obtain ⟨q, hq⟩ : ∃ q, x % 4 = q := ⟨_, rfl⟩
      obtain ⟨k1, hk1⟩ : ∃ k1, k1 = k + 1 := ⟨_, rfl⟩
      have hw : IntKind.i64.wrap ((k : Int) + 1) = (k1 : Int) := by rw [IntWalk.i64_in _ (by omega)]; omega
      have hq4 : q < 4 := by omega
      have hwq : IntKind.i64.wrap (q : Int) = (q : Int) := IntWalk.i64_in _ (by omega)
      have hqm : ((x : Nat) : Int).tmod 4 = (q : Int) := by rw [Int.tmod_eq_emod_of_nonneg (by omega)]; omega
      have hgd : l.getD k 0 % 4 = q := by rw [List.getD_eq_getElem?_getD, hx]; exact hq
      have hst := TD_step l k
      rw [hgd, ← hk1] at hst
      have HST := Lib.hid hst
      have HDa := Lib.hid (HDk.out.ext (Ext.refl wr).drew)
      have HWa := Lib.hid HDa.out.bel
      have HC := Lib.hid hc
      have HG := Lib.hid hg
      have hwl : (TD l k1).waits.length = k1 := wsOf_length l k1
      have HWL := Lib.hid hwl
      have HWK : Hid ((TD l k).waits.length ≤ 1000000) := Lib.hid (by show (wsOf l k).length ≤ _; rw [wsOf_length]; omega)
      have HK40 : Hid (k1 < 256) := Lib.hid (by omega)
      have hcr := (HDk.out.bel.cell (p := ⟨g, o + k, none⟩) hg).trans hc
      have hlast : ∀ s, s < 4 → lastOf l kl k1 s = if kl[k]? = some true ∧ s = q then k1 else lastOf l kl k s := fun s hs => by
        rw [hk1]
        show (if kl[k]? = some true ∧ l.getD k 0 % 4 = s then k + 1 else lastOf l kl k s) = _
        rw [hgd]
        by_cases h1 : kl[k]? = some true <;> by_cases h2 : q = s
        · rw [if_pos ⟨h1, h2⟩, if_pos ⟨h1, h2.symm⟩]
        · rw [if_neg fun h => h2 h.2, if_neg fun h => h2 h.2.symm]
        · rw [if_neg fun h => h1 h.1, if_neg fun h => h1 h.1]
        · rw [if_neg fun h => h1 h.1, if_neg fun h => h1 h.1]
      have HLAST := Lib.hid hlast
      have HKK := Lib.hid hk1
      clear hst hx hgd hwl hc hlast hq hk1
      go_wp2_with fail
      go_region_held3 (fun w' => w'.cell? ⟨g, o + k, none⟩ = some (.int .u8 (x : Int)))
        (exact keep_cell (by assumption) HG.out HC.out)
        (first
          | (go_at_call 24; ((with_reducible refine (sector_n k1 HK40.out _).mono ?_); rintro e ws ⟨As, ns, cs, rfl, hown, hx⟩; have HOF := Lib.hid (HDa.out.fresh hown); have HBY : Hid (By ws As ns cs (List.replicate 64 k1)) := Lib.hid (Bs.of_own hown (rep_lt k1 HK40.out)); have HDb := Lib.hid (HDa.out.ext hx); have HWb := Lib.hid HDb.out.bel; have HXs := Lib.hid hx; clear hown hx))
          | (go_at_call 23; ((with_reducible refine (write_pd HDb.out.disk (q : Int) As ns cs (List.replicate 64 k1) HBY.out HOF.out HWK.out).mono ?_); unfold Outc; rw [HST.out]; rintro e wv ⟨rfl, hp, hm⟩; have HDc : Hid (DK w wv d _ (TD l k1)) := Lib.hid (HDb.out.step hp hm); have HMc := Lib.hid hm; have HWc := Lib.hid HDc.out.bel; clear hp hm))
          | (go_at_call 16; ((with_reducible refine (waits_pd HDc.out.disk).mono ?_); rw [HWL.out]; rintro e wz ⟨rfl, rfl⟩)))
      have HR2 := Lib.hid (((HR.out.ext (Ext.refl wr).drew).ext HXs.out).mod HMc.out HF.out)
      have HF2 : Hid (¬ grow F ws wv w2.heap.size) := Lib.hid fun h => h.elim HF.out fun h2 => by
        have h3 := HR.out.lt
        have h4 := HXs.out.size
        have h5 : wr.drew.heap.size = wr.heap.size := rfl
        omega
      have hcv := (HDc.out.bel.cell (p := ⟨g, o + k, none⟩) HG.out).trans HC.out
      have hr1 := HR2.out.cell hq4
      have hr2 := HR2.out.free q
      clear HXs HBY HOF hcr
      by_cases hkb : k < n1
      · obtain ⟨g1, o1, b, rfl, hg1, hb1, hc1⟩ := vs_cell HK.out hkb
        have hcb := (HDc.out.bel.cell (p := ⟨g1, o1 + k, none⟩) hg1).trans hc1
        cases b with
        | true =>
          have HL2 : Hid (∀ s, s < 4 → lastOf l kl k1 s = if s = q then k1 else lastOf l kl k s) := Lib.hid fun s hs => by
            rw [HLAST.out s hs]
            by_cases h2 : s = q
            · rw [if_pos ⟨hb1, h2⟩, if_pos h2]
            · rw [if_neg fun h => h2 h.2, if_neg h2]
          clear hb1 hc1 HLAST
          go_wp2_with fail
          go_roundw
          case rel => exact ⟨k1, by have := HKK.out; omega, rfl, ⟨_, Lib.hid (HDc.out.mod (Mod.setCell (F := fun i => i = w2.heap.size) (Mod.refl _ _) (.inl rfl) _) (fun i hi h => HF2.out (h ▸ hi)) fun i hi => hi ▸ HD.out.bel.size), HF2⟩, Lib.hid ((HR2.out.set hq4 k1).congr fun s hs => (HL2.out s hs).symm)⟩
          case measure => have := HKK.out; simp [intOf]; omega
        | false =>
          have HL2 : Hid (∀ s, s < 4 → lastOf l kl k1 s = lastOf l kl k s) := Lib.hid fun s hs => by
            rw [HLAST.out s hs, if_neg fun h => by rw [hb1] at h; cases h.1]
          clear hb1 hc1 HLAST
          go_wp2_with fail
          go_roundw
          case rel => exact ⟨k1, by have := HKK.out; omega, rfl, ⟨_, HDc, HF2⟩, Lib.hid (HR2.out.congr fun s hs => (HL2.out s hs).symm)⟩
          case measure => have := HKK.out; simp [intOf]; omega
      · have HL2 : Hid (∀ s, s < 4 → lastOf l kl k1 s = lastOf l kl k s) := Lib.hid fun s hs => by
          have hlen := HK.out.len
          rw [List.length_map] at hlen
          rw [HLAST.out s hs, if_neg fun h => by rw [List.getElem?_eq_none (by omega)] at h; cases h.1]
        clear HLAST
        go_wp2_with fail
        go_roundw
        case rel => exact ⟨k1, by have := HKK.out; omega, rfl, ⟨_, HDc, HF2⟩, Lib.hid (HR2.out.congr fun s hs => (HL2.out s hs).symm)⟩
        case measure => have := HKK.out; simp [intOf]; omega
    · obtain rfl : k = n := by omega
      have HT := Lib.hid (fun s (hs : s < 4) => torn_read l kl k s (by omega) hs)
      have HWK : Hid ((TD l k).waits.length ≤ 1000000) := Lib.hid (by show (wsOf l k).length ≤ _; rw [wsOf_length]; omega)
      obtain ⟨h1, h2, h3, h4, h5, _⟩ := HT.out 0 (by omega)
      have HT1 := Lib.hid h1
      have HT2 := Lib.hid h2
      have HT3 := Lib.hid h3
      have HT4 := Lib.hid h4
      clear h1 h2 h3 h4 h5
      go_wp2_with fail
      refine (crash_pd HDk.out.disk A1 n1 c1 kl ((HK.out.below HDk.out.bel).more HDk.out.bel.size) (HDk.out.vs HK.out)).mono ?_
      unfold Outc
      rw [HT1.out]
      rintro e w5 ⟨rfl, hp, hm⟩
      have HD5 := Lib.hid (HDk.out.step hp hm)
      have HR5 := Lib.hid (HR.out.mod hm HF.out)
      clear hp hm
      go_wp2_with fail
      refine (up_pd HD5.out.disk).mono ?_
      rw [HT2.out]
      rintro e w6 ⟨rfl, rfl⟩
      go_wp2_with fail
      refine (waits_pd HD5.out.disk).mono ?_
      rw [HT3.out]
      rintro e w6 ⟨rfl, rfl⟩
      go_wp2_with fail
      refine (start_pd HD5.out.disk).mono ?_
      unfold Outc
      rw [HT4.out]
      rintro e w7 ⟨rfl, hp, hm⟩
      have HD7 := Lib.hid (HD5.out.step hp hm)
      have HR7 := Lib.hid (HR5.out.mod hm fun h => h.elim HF.out fun h2 => by
        have h3 := HR.out.lt
        omega)
      have HW7 : Hid (((TD l k).crash kl).2.start.2.waits.length ≤ 1000000) := Lib.hid (by rw [start_waits, HT3.out]; exact Nat.zero_le _)
      clear hp hm
      go_wp2_with fail
      go_loopw [9] (fun i wq => ∃ s : Nat, s ≤ 4 ∧ i = .int .i64 s ∧ Hid (Ext w7 wq)) (fun i _ => 4 - (intOf i).toNat)
      case atStart => exact ⟨0, Nat.zero_le _, rfl, Lib.hid (Ext.refl _)⟩
      case round =>
        obtain ⟨s, hs4, rfl, HQ⟩ := hrel
        by_cases hs : s < 4
        · have hread := (HT.out s hs).2.2.2.2.2
          have hcell := (HR7.out.ext HQ.out).cell hs
          have hle := lastOf_le l kl k s
          revert hread hcell hle
          generalize lastOf l kl k s = x
          intro hread hcell hle
          have hu8 : IntKind.u8.wrap (x : Int) = (x : Int) := by rw [IntKind.wrap_u8]; omega
          have HRD := Lib.hid (decide_eq_true hread)
          have HDq := Lib.hid (HD7.out.ext HQ.out)
          have HXX : Hid (x < 256) := Lib.hid (by omega)
          clear hread hle
          go_wp2_with fail
          refine (reads_of HDq.out.disk (s : Int) x HXX.out HW7.out).mono ?_
          rw [HRD.out]
          rintro e wz ⟨rfl, hx⟩
          have HZ := Lib.hid (HQ.out.trans hx)
          clear hx hcell hu8
          go_wp2_with fail
          go_roundw
          case rel => exact ⟨s + 1, by omega, by go_num, HZ⟩
          case measure => simp [intOf]; omega
        · go_wp2_with fail
          go_ret
          exact ⟨rfl, HD7.out.bel.trans HQ.out⟩
end Go.Proofs.Ytmfbeglidhejkaa
