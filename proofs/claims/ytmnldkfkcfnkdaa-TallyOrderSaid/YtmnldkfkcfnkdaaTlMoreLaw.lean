/-
  With more notes Upto never falls; with slots dropped that lie up to where one asks it is the same: the law's walk.
-/
import Derived.Test.YtmnldkfkcfnkdaaTlAw
namespace Go.Proofs.Ytmnldkfkcfnkdaa
open Go Go.RowKit Go.Maps

theorem wrap_modT (z : Int) (m : Nat) (hm : m ≤ 300) : ∃ q : Nat, q ≤ m ∧ wrap64 ((IntKind.u64.wrap z).tmod ((m : Int) + 1)) = (q : Int) := by
  have h1 : 0 ≤ IntKind.u64.wrap z := by rw [IntKind.wrap_u64]; omega
  have h2 := Int.emod_nonneg (IntKind.u64.wrap z) (show (m : Int) + 1 ≠ 0 by omega)
  have h3 := Int.emod_lt_of_pos (IntKind.u64.wrap z) (show (0 : Int) < (m : Int) + 1 by omega)
  refine ⟨((IntKind.u64.wrap z) % ((m : Int) + 1)).toNat, by omega, ?_⟩
  rw [Int.tmod_eq_emod_of_nonneg h1, IntWalk.wrap64_in _ (by omega)]
  omega
theorem Ls.takeT {α : Type} {cells : α → List Value} {N : Nat} {w : World} {B : Nat} {A : Option Addr} {n c : Nat} {l : List α} (h : Ls cells N w B A n c l) {k : Nat} (hk : k ≤ n) : Ls cells N w B A k c (l.take k) := by
  have hc := h.cap
  refine ⟨by rw [List.length_take, h.len]; omega, by omega, h.most, fun h0 => ?_, h.nil_⟩
  obtain ⟨g, o, e, hg, hr⟩ := h.rd (by omega)
  refine ⟨g, o, e, hg, fun j a ha => hr j a ?_⟩
  rw [List.getElem?_take] at ha
  split at ha
  · exact ha
  · cases ha
theorem Ls.upT {α : Type} {cells : α → List Value} {N : Nat} {w : World} {B B' : Nat} {A : Option Addr} {n c : Nat} {l : List α} (h : Ls cells N w B A n c l) (hB : B ≤ B') : Ls cells N w B' A n c l := by
  refine ⟨h.len, h.cap, h.most, fun h0 => ?_, h.nil_⟩
  obtain ⟨g, o, e, hg, hr⟩ := h.rd h0
  exact ⟨g, o, e, by omega, hr⟩
set_option maxRecDepth 100000 in
set_option maxHeartbeats 3200000 in
theorem tallyMore_law (n : Int) (A : Option Addr) (m c : Nat) (l : List PairT) (f a : Int) (w : World) (_ : (Lit.int .i64 n).wf = true) (hl : Ls PairT.cells 2 w w.heap.size A m c l ∧ ∀ p ∈ l, (Lit.int .i64 p.i).wf = true ∧ (Lit.int .i64 p.r).wf = true) (_ : (Lit.int .i64 f).wf = true) (ha : (Lit.int .i64 a).wf = true) :
    Calls Try.prog 7 #[.int .i64 n, .slice A m c, .int .i64 f, .int .i64 a] w fun e w' => e = .returned (.bool true) ∧ Below w.heap.size w w' := by
  show Calls Try.prog 7 #[.int .i64 n, .slice A m c, .int .i64 f, .int .i64 a] w fun e w' => e = .returned (.bool true) ∧ Ext w w'
  obtain ⟨h, -⟩ := hl
  have hcap := h.cap
  have hmost := h.most
  have H := Lib.hid h
  have HWA := Lib.hid ha
  clear h ha
  go_enter Try.func7, Try.ntmps7
  go_wp2_with fail
  refine (tawake_any _).mono ?_
  rintro e w1 ⟨rfl, hx⟩
  have HX := Lib.hid hx
  clear hx
  go_wp2_with fail
  refine (tof_of n _).mono ?_
  rintro e w2 ⟨⟨N, rfl, hN⟩, rfl⟩
  have HN := Lib.hid hN
  clear hN
  go_wp2_with fail
  refine (tnear_of (N : Int) (H.out.below HX.out)).mono ?_
  rintro e w2 ⟨⟨b, rfl, hb⟩, rfl⟩
  cases b with
  | false =>
    go_wp2_with fail
    go_ret
    exact ⟨rfl, HX.out⟩
  | true =>
  obtain ⟨hm, hnr⟩ := hb rfl
  have HNR := Lib.hid hnr
  clear hb hnr
  by_cases q1 : a < 0
  · have d1 : decide (a < 0) = true := decide_eq_true q1
    go_wp2_with fail
    go_ret
    exact ⟨rfl, HX.out⟩
  by_cases q2 : 70 < a
  · have d1 : decide (a < 0) = false := decide_eq_false q1
    have d2 : decide (70 < a) = true := decide_eq_true q2
    go_wp2_with fail
    go_ret
    exact ⟨rfl, HX.out⟩
  have d1 : decide (a < 0) = false := decide_eq_false q1
  have d2 : decide (70 < a) = false := decide_eq_false q2
  go_upto_region 7 with (fail)
  obtain ⟨k, hk, hke⟩ := wrap_modT f m hm
  rw [hke]
  have hki : (k : Int) ≤ (c : Int) := by omega
  have HK := Lib.hid hk
  clear hke
  go_wp2_with fail
  have hL1 := ((H.out.below HX.out).upT HX.out.size).takeT HK.out
  refine (tnoted_of HN.out hL1 (HNR.out.take k)).mono ?_
  rintro e w2 ⟨p1, b1, rfl, hz1, hx, hq1, hq2⟩
  have HZ1 := Lib.hid hz1
  have HX := Lib.hid (HX.out.trans hx)
  clear hL1 hz1 hx hq1 hq2
  go_wp2_with fail
  refine (tnoted_of HN.out ((H.out.below HX.out).upT HX.out.size) HNR.out).mono ?_
  rintro e w3 ⟨p2, b2, rfl, hz2, hx, hq1, hq2⟩
  have HZ1 := Lib.hid (HZ1.out.ext hx)
  have HZ2 := Lib.hid hz2
  have HB : Hid (w.heap.size ≤ b2) := Lib.hid (by have := HX.out.size; omega)
  have HX := Lib.hid (HX.out.trans hx)
  clear hz2 hx hq1 hq2
  have HUP := Lib.hid (HNR.out.more (by have := HN.out; omega) k a)
  obtain ⟨L1, hL1⟩ : ∃ L1, foldT (N : Int) (l.take k) = L1 := ⟨_, rfl⟩
  obtain ⟨L2, hL2⟩ : ∃ L2, foldT (N : Int) l = L2 := ⟨_, rfl⟩
  rw [hL1] at HZ1 HUP
  rw [hL2] at HZ2 HUP
  obtain ⟨T1, hT1⟩ : ∃ T1, uptoT (N : Int) L1 a = T1 := ⟨_, rfl⟩
  obtain ⟨T2, hT2⟩ : ∃ T2, uptoT (N : Int) L2 a = T2 := ⟨_, rfl⟩
  rw [hT1, hT2] at HUP
  have HU1 := Lib.hid (And.intro hT1 hT2)
  clear hL1 hL2 hT1 hT2
  go_wp2_with fail
  refine (tupto_of HZ2.out a HWA.out).mono ?_
  rw [HU1.out.2]
  rintro e w4 ⟨rfl, hx⟩
  have HZ1 := Lib.hid (HZ1.out.ext hx)
  have HZ2 := Lib.hid (HZ2.out.ext hx)
  have HX := Lib.hid (HX.out.trans hx)
  clear hx
  go_wp2_with fail
  refine (tupto_of HZ1.out a HWA.out).mono ?_
  rw [HU1.out.1]
  rintro e w5 ⟨rfl, hx⟩
  have HZ2 := Lib.hid (HZ2.out.ext hx)
  have HX := Lib.hid (HX.out.trans hx)
  clear hx
  have hle : ¬ T2 < T1 := by have := HUP.out; omega
  have hld : decide (T2 < T1) = false := decide_eq_false hle
  go_wp2_with fail
  refine (tdrop_of HZ2.out a).mono ?_
  rintro e w6 ⟨rfl, hz2, hm2⟩
  have HZ2 := Lib.hid hz2
  have HX := Lib.hid (show Ext w w6 from Below.mod HX.out hm2 HX.out.size (fun i hi => by have := HB.out; omega))
  clear hz2 hm2 hle hld
  go_wp2_with fail
  go_loopw [12] (fun v wr => ∃ j : Nat, 1 ≤ j ∧ j ≤ 70 ∧ v = .int .i64 (j : Int) ∧ Hid (TQ wr p2 N b2 (dropT L2 a)) ∧ Hid (Ext w wr)) (fun v _ => 70 - (intOf v).toNat)
  case atStart => exact ⟨1, by omega, by omega, rfl, HZ2, HX⟩
  case round =>
    obtain ⟨j, hj1, hj, rfl, HZ2, HX⟩ := hrel
    by_cases hlt : j < 70
    · have hlt2 : (j : Int) < 70 := by omega
      by_cases hja : (j : Int) ≤ a
      · have d3 : decide ((j : Int) ≤ a) = true := decide_eq_true hja
        have HC : Hid (cntT (N : Int) (dropT L2 a) (j : Int) = 0) := Lib.hid (cntT_zero (by rw [lookT_drop, if_neg (by omega)]))
        go_wp2_with fail
        refine (tcount_of HZ2.out (j : Int) (WalkArith.wf_i64 (by omega))).mono ?_
        rw [HC.out]
        rintro e w7 ⟨rfl, hx⟩
        have HZ2 := Lib.hid (HZ2.out.ext hx)
        have HX := Lib.hid (HX.out.trans hx)
        clear hx
        go_wp2_with fail
        go_roundw
        case rel => exact ⟨j + 1, by omega, by omega, by go_num, HZ2, HX⟩
        case measure => simp [intOf]; omega
      · have d3 : decide ((j : Int) ≤ a) = false := decide_eq_false hja
        go_wp2_with fail
        go_roundw
        case rel => exact ⟨j + 1, by omega, by omega, by go_num, HZ2, HX⟩
        case measure => simp [intOf]; omega
    · obtain rfl : j = 70 := by omega
      go_wp2_with fail
      refine (tupto_of HZ2.out a HWA.out).mono ?_
      rw [uptoT_drop, HU1.out.2]
      rintro e w7 ⟨rfl, hx⟩
      have HX := Lib.hid (HX.out.trans hx)
      clear hx
      go_wp2_with fail
      go_ret
      exact ⟨rfl, HX.out⟩
end Go.Proofs.Ytmnldkfkcfnkdaa
