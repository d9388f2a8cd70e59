/-
  The contract of the document's Decide.
-/
import Derived.Test.YtinflpheogglhaaK00
import Derived.Test.YtinflpheogglhaaK04
namespace Go.Proofs.Ytinflpheogglhaa
set_option maxRecDepth 100000
section
open Go Go.RowKit
theorem unk_split (l : List Rpt) : l.countP unkR = l.countP (fun r => decide (r.st = 0)) + l.countP (fun r => decide (r.st = 4)) := by
  induction l with
  | nil => rfl
  | cons a l ih =>
    rw [List.countP_cons, List.countP_cons, List.countP_cons, ih]
    unfold unkR
    by_cases h0 : a.st = 0
    · simp [h0]; omega
    · by_cases h4 : a.st = 4
      · simp [h4]; omega
      · simp [h0, h4]
theorem any_countR (l : List Rpt) : (l.any fun r => decide (r.st = 0)) = decide (0 < l.countP fun r => decide (r.st = 0)) := by
  rw [Bool.eq_iff_iff, decide_eq_true_iff, List.countP_pos_iff, List.any_eq_true]
theorem RCat {w : World} {B n c g o : Nat} {l : List Rpt} {j : Nat} {r : Rpt} (h : Ls rptC 11 w B (some ⟨g, o, none⟩) n c l) (hj : l[j]? = some r) : RC w g (o + j * 11) r := by
  have hn : j < n := by have := (List.getElem?_eq_some_iff.1 hj).1; rw [h.len] at this; exact this
  obtain ⟨g', o', r', e, _, h1, h2⟩ := h.rpt hn
  injection e with e
  injection e with e1 e2
  subst e1 e2
  rw [hj] at h1
  injection h1 with h1
  subst h1
  exact h2
set_option maxHeartbeats 1600000 in
theorem rdecide_of (n : Int) (A : Option Addr) (m c : Nat) (l : List Rpt) (w : World) (h : Ls rptC 11 w w.heap.size A m c l) :
    Calls Try.prog 11 #[.int .i64 n, .slice A m c] w fun e w' => e = .returned (.tuple #[.int .i64 ((decR n l).1 : Int), eA (decR n l).2, .int .i64 (decE n l)]) ∧ Ext w w' := by
  obtain ⟨R, hR⟩ : ∃ R, decR n l = R := ⟨_, rfl⟩
  obtain ⟨F, hF⟩ : ∃ F, decE n l = F := ⟨_, rfl⟩
  rw [hR, hF]
  obtain ⟨W0, hW0⟩ : ∃ W0, w.alloc (.cells #[.int .u8 0, .int .i64 0, .int .i64 0, .int .u8 0, .string ⟨#[]⟩, .string ⟨#[]⟩, .string ⟨#[]⟩] 27) = W0 := ⟨_, rfl⟩
  have hE : Ext w W0 := by rw [← hW0]; exact (Ext.refl w).alloc _
  have hr0 : W0.heap[w.heap.size]? = some (.cells #[.int .u8 0, .int .i64 0, .int .i64 0, .int .u8 0, .string ⟨#[]⟩, .string ⟨#[]⟩, .string ⟨#[]⟩] 27 (0, 0)) := by rw [← hW0]; exact heap_alloc_new w _
  have hl0 := (h.below hE).moreB hE.size
  have hlen := h.len
  have hcap := h.cap
  have HV := Lib.hid (And.intro hE hr0)
  have HW0 := Lib.hid hW0
  have HL := Lib.hid hl0
  have HLN := Lib.hid hlen
  clear hW0 h hE hr0 hl0
  go_enter Try.func11, Try.ntmps11
  go_upto_region 1 with (fail)
  rw [HW0.out]
  obtain ⟨b, hb⟩ : ∃ b, w.heap.size = b := ⟨_, rfl⟩
  rw [hb] at HV ⊢
  have HB := Lib.hid hb
  clear hb HW0
  go_wp2_with fail
  refine (rcrowd_of n _).mono ?_
  rintro _ w1 ⟨rfl, hw⟩
  subst hw
  by_cases hm0 : mostQ n = 0
  · have HF : Hid (decR n l = (0, {}) ∧ decE n l = 2) := Lib.hid (dec_err (by unfold okR; rw [most_not hm0]; rfl))
    rw [most_not hm0]
    clear hm0 hlen
    obtain ⟨_, e0, e1, e2, e3, e4, e5, e6⟩ := ent_row HV.out.2
    go_upto_region 99 with (fail)
    change bodyPost _ _ _ _ _ (S7 W0 b {})
    have hrw := S7.row {} HV.out.2
    have hxw : Ext w (S7 W0 b ({} : Ent)) := S7.ext {} HV.out.1 (by rw [HB.out]; exact Nat.le_refl _)
    generalize (S7 W0 b ({} : Ent)) = V9 at hrw hxw ⊢
    obtain ⟨⟨d0, d1, d2, d3, d4, d5, d6⟩, _⟩ := ent_row hrw
    refine bodyPost_ret (v := .tuple #[.int .i64 0, eA {}, .int .i64 2]) (by simp [results, Try.results11, go_sem, d0, d1, d2, d3, d4, d5, d6]) rfl ?_
    refine ⟨?_, hxw⟩
    rw [← hR, ← hF, HF.out.1, HF.out.2]
    rfl
  rw [most_crowd hm0]
  by_cases hmn : (m : Int) = n
  · subst hmn
    have hmost := most_half hm0
    have hm3 := mostQ_cases hm0
    have hok := ok_all hlen hm0
    have hm7 := hmost.2
    obtain ⟨M, hM⟩ : ∃ M, mostQ (m : Int) = M := ⟨_, rfl⟩
    rw [hM] at hmost
    have hM7 : M ≤ 7 := by omega
    have HMM := Lib.hid (And.intro hM (And.intro hmost hm3))
    have HOK0 := Lib.hid hok
    clear hmost hm3 hm0 hM hok hlen
    go_wp2_with fail
    go_loopw [7] (fun iv wr => ∃ i : Nat, i ≤ m ∧ iv = .int .i64 (i : Int) ∧ wr = W0 ∧ Hid (∀ (k : Nat) (a : Rpt), k < i → l[k]? = some a → decide (4 < a.st) = false)) (fun iv _ => m - (intOf iv).toNat)
    case atStart => exact ⟨0, Nat.zero_le _, rfl, rfl, Lib.hid fun k a hk => absurd hk (Nat.not_lt_zero _)⟩
    case round =>
      obtain ⟨i, hi, rfl, rfl, HA⟩ := hrel
      by_cases hlt : i < m
      · obtain ⟨g, o, r, rfl, _, hb, hrc⟩ := Ls.rpt HL.out hlt
        have c1 := hrc.2.1
        have HBR := Lib.hid hb
        clear hrc hb
        by_cases hs : 4 < r.st
        · have hsz : decide ((4 : Int) < (r.st : Int)) = true := decide_eq_true (by omega)
          have HF : Hid (decR (m : Int) l = (0, {}) ∧ decE (m : Int) l = 2) := Lib.hid (dec_err (by rw [HOK0.out, any_yesR HBR.out (decide_eq_true hs)]; rfl))
          clear hs
          obtain ⟨_, e0, e1, e2, e3, e4, e5, e6⟩ := ent_row HV.out.2
          go_upto_region 99 with (fail)
          change bodyPost _ _ _ _ _ (S7 wr b {})
          have hrw := S7.row {} HV.out.2
          have hxw : Ext w (S7 wr b ({} : Ent)) := S7.ext {} HV.out.1 (by rw [HB.out]; exact Nat.le_refl _)
          generalize (S7 wr b ({} : Ent)) = V9 at hrw hxw ⊢
          obtain ⟨⟨d0, d1, d2, d3, d4, d5, d6⟩, _⟩ := ent_row hrw
          refine bodyPost_ret (v := .tuple #[.int .i64 0, eA {}, .int .i64 2]) (by simp [results, Try.results11, go_sem, d0, d1, d2, d3, d4, d5, d6]) rfl ?_
          refine ⟨?_, hxw⟩
          rw [← hR, ← hF, HF.out.1, HF.out.2]
          rfl
        · have hsz : decide ((4 : Int) < (r.st : Int)) = false := decide_eq_false (by omega)
          have hd4 : decide (4 < r.st) = false := decide_eq_false hs
          have HD4 := Lib.hid hd4
          clear hs hd4
          go_wp2_with fail
          go_roundw
          case rel =>
            refine ⟨i + 1, by omega, by go_num, trivial, Lib.hid fun k a hk ha => ?_⟩
            by_cases hki : k = i
            · subst hki
              rw [HBR.out] at ha
              injection ha with ha
              rw [← ha]
              exact HD4.out
            · exact HA.out k a (by omega) ha
          case measure => simp [intOf]; omega
      · obtain rfl : i = m := by omega
        have hok : okR (i : Int) l = true := by
          rw [HOK0.out, any_noR fun k a ha => HA.out k a (by have := (List.getElem?_eq_some_iff.1 ha).1; rw [HLN.out] at this; exact this) ha]
          rfl
        have HOK := Lib.hid (dec_ok hok)
        obtain ⟨m, hm⟩ : ∃ m, m = i := ⟨_, rfl⟩
        subst hm
        have HMO := Lib.hid (fun V => rmost_of (m : Int) V)
        rw [HMM.out.1] at HMO
        have HC0 := Lib.hid (rmany_of 0 A m c l wr HL.out)
        have HC4 := Lib.hid (fun V h => rmany_of 4 A m c l V h)
        have HGT := Lib.hid (fun V h => rgreat_of A m c l V h)
        have hus := unk_split l
        have hac := any_countR l
        have hk0 : l.countP (fun r => decide (r.st = 0)) ≤ m := by rw [← HLN.out]; exact List.countP_le_length
        have hk4 : l.countP (fun r => decide (r.st = 4)) ≤ m := by rw [← HLN.out]; exact List.countP_le_length
        obtain ⟨K0, hK0⟩ : ∃ K0, l.countP (fun r => decide (r.st = 0)) = K0 := ⟨_, rfl⟩
        obtain ⟨K4, hK4⟩ : ∃ K4, l.countP (fun r => decide (r.st = 4)) = K4 := ⟨_, rfl⟩
        rw [hK0] at HC0 hus hac hk0
        rw [hK4] at HC4 hus hk4
        have HW : Hid (waitR l = (undR M (K0 + K4) l && decide (0 < K0))) := Lib.hid (by
          unfold waitR
          rw [HLN.out, ← HMM.out.2.1.1, hus, hac])
        clear hus hac hK0 hK4 hok
        go_wp2_with fail
        refine (HMO.out _).mono ?_
        rintro _ w1 ⟨rfl, hw⟩
        subst hw
        go_wp2_with fail
        refine HC0.out.mono ?_
        rintro _ w1 ⟨rfl, hx⟩
        have HV1 := Lib.hid (And.intro (HV.out.1.trans hx) (keep_rowB hx HV.out.2))
        have HL1 := Lib.hid ((HL.out.below hx).moreB hx.size)
        clear HV HL hx HC0
        go_wp2_with fail
        refine (HC4.out _ HL1.out).mono ?_
        rintro _ w2 ⟨rfl, hx⟩
        have HV2 := Lib.hid (And.intro (HV1.out.1.trans hx) (keep_rowB hx HV1.out.2))
        have HL2 := Lib.hid ((HL1.out.below hx).moreB hx.size)
        clear HV1 HL1 hx HC4
        go_wp2_with fail
        refine (HGT.out _ HL2.out).mono ?_
        rintro _ W1 ⟨z, rfl, hz, hx⟩
        have HBZ := Lib.hid hz
        have HV := Lib.hid (And.intro (HV2.out.1.trans hx) (keep_rowB hx HV2.out.2))
        have HL := Lib.hid ((HL2.out.below hx).moreB hx.size)
        clear HV2 HL2 hx HGT hz HMO
        by_cases hkn : M ≤ K0 + K4
        · have hknz : decide ((M : Int) ≤ (m : Int) - (K0 : Int) - (K4 : Int)) = false := decide_eq_false (by have h1 := HMM.out.2.1.1; have h2 := HMM.out.2.2; omega)
          obtain ⟨kb, hkb⟩ : ∃ kb, kb = false := ⟨_, rfl⟩
          have HU : Hid (kb = !undR M (K0 + K4) l) := Lib.hid (by rw [hkb, undR_iff.2 (.inl hkn)]; rfl)
          subst hkb
          clear hkn
          have hu : undR M (K0 + K4) l = true := by
            have := HU.out
            cases hc : undR M (K0 + K4) l with
            | true => rfl
            | false => rw [hc] at this; cases this
          by_cases hk00 : K0 = 0
          · have hkz : ¬ 0 < K0 := by omega
            have hfin : decR (m : Int) l = valR (bestR l) := by
              rw [HOK.out.1, HW.out, hu, decide_eq_false hkz]
              rfl
            have HFN := Lib.hid hfin
            clear hfin hu hk00
            rcases HBZ.out with ⟨rfl, hbn⟩ | ⟨kq, q, rfl, hqk, hbs⟩
            · have HFQ : Hid (decR (m : Int) l = (1, noopE)) := Lib.hid (by rw [HFN.out, hbn]; rfl)
              obtain ⟨_, e0, e1, e2, e3, e4, e5, e6⟩ := ent_row HV.out.2
              go_upto_region 99 with (fail)
              change bodyPost _ _ _ _ _ (S7 W1 b noopE)
              have hrw := S7.row noopE HV.out.2
              have hxw : Ext w (S7 W1 b (noopE : Ent)) := S7.ext noopE HV.out.1 (by rw [HB.out]; exact Nat.le_refl _)
              generalize (S7 W1 b (noopE : Ent)) = V9 at hrw hxw ⊢
              obtain ⟨⟨d0, d1, d2, d3, d4, d5, d6⟩, _⟩ := ent_row hrw
              refine bodyPost_ret (v := .tuple #[.int .i64 1, eA noopE, .int .i64 0]) (by simp [results, Try.results11, go_sem, d0, d1, d2, d3, d4, d5, d6]) rfl ?_
              refine ⟨?_, hxw⟩
              rw [← hR, ← hF, HFQ.out, HOK.out.2]
              rfl
            · have HFQ : Hid (decR (m : Int) l = (2, q.e)) := Lib.hid (by rw [HFN.out, hbs]; rfl)
              have hkn : kq < m := by have := (List.getElem?_eq_some_iff.1 hqk).1; rw [HLN.out] at this; exact this
              obtain ⟨g, o, q1, rfl, _, hq1, hrq⟩ := Ls.rpt (HL.out.below ((Ext.refl W1))) hkn
              rw [hqk] at hq1
              injection hq1 with hq1
              subst hq1
              obtain ⟨ix, st, rx, ry, e⟩ := q
              obtain ⟨c0, c1, c2, c3, c4, c5, c6, c7, c8, c9, c10⟩ := hrq
              dsimp only at c4 c5 c6 c7 c8 c9 c10 HFQ
              obtain ⟨_, e0, e1, e2, e3, e4, e5, e6⟩ := ent_row HV.out.2
              have hkqz : decide ((kq : Int) < 0) = false := decide_eq_false (by omega)
              have hcap := HL.out.cap
              clear hqk hbs c0 c1 c2 c3
              go_wp2_with fail
              go_region
              change Exit.then _ _ _ _ ((S7 W1 b e).drew)
              have hrw := keep_rowB ((Ext.refl (S7 W1 b e)).drew) (S7.row e HV.out.2)
              have hxw : Ext w ((S7 W1 b e).drew) := (S7.ext e HV.out.1 (by rw [HB.out]; exact Nat.le_refl _)).drew
              generalize (S7 W1 b e).drew = V9 at hrw hxw ⊢
              clear c4 c5 c6 c7 c8 c9 c10 e0 e1 e2 e3 e4 e5 e6
              have HRW := Lib.hid hrw
              have HXW := Lib.hid hxw
              clear hrw hxw
              go_wp2_with fail
              obtain ⟨⟨d0, d1, d2, d3, d4, d5, d6⟩, _⟩ := ent_row HRW.out
              refine bodyPost_ret (v := .tuple #[.int .i64 2, eA e, .int .i64 0]) (by simp [results, Try.results11, go_sem, d0, d1, d2, d3, d4, d5, d6]) rfl ?_
              refine ⟨?_, HXW.out⟩
              rw [← hR, ← hF, HFQ.out, HOK.out.2]
              rfl
          · have hkz : 0 < K0 := by omega
            have hfin : decR (m : Int) l = (0, {}) := by
              rw [HOK.out.1, HW.out, hu, decide_eq_true hkz]
              rfl
            have HFN := Lib.hid hfin
            clear hfin hu hk00
            obtain ⟨_, e0, e1, e2, e3, e4, e5, e6⟩ := ent_row HV.out.2
            go_upto_region 99 with (fail)
            change bodyPost _ _ _ _ _ (S7 W1 b {})
            have hrw := S7.row {} HV.out.2
            have hxw : Ext w (S7 W1 b ({} : Ent)) := S7.ext {} HV.out.1 (by rw [HB.out]; exact Nat.le_refl _)
            generalize (S7 W1 b ({} : Ent)) = V9 at hrw hxw ⊢
            obtain ⟨⟨d0, d1, d2, d3, d4, d5, d6⟩, _⟩ := ent_row hrw
            refine bodyPost_ret (v := .tuple #[.int .i64 0, eA {}, .int .i64 0]) (by simp [results, Try.results11, go_sem, d0, d1, d2, d3, d4, d5, d6]) rfl ?_
            refine ⟨?_, hxw⟩
            rw [← hR, ← hF, HFN.out, HOK.out.2]
            rfl
        · have hknz : decide ((M : Int) ≤ (m : Int) - (K0 : Int) - (K4 : Int)) = true := decide_eq_true (by have h1 := HMM.out.2.1.1; have h2 := HMM.out.2.2; omega)
          have hnk : decide (M ≤ K0 + K4) = false := decide_eq_false hkn
          have HUK : Hid (undR M (K0 + K4) l = l.any fun r => decide (r.st = 3) && openR (bestR l) r && decide (M ≤ K0 + K4 + lostGe l r.b)) := Lib.hid (by unfold undR; rw [hnk, Bool.false_or])
          obtain ⟨F, hFd⟩ : ∃ F : Rpt → Bool, (fun r => decide (r.st = 3) && openR (bestR l) r && decide (M ≤ K0 + K4 + lostGe l r.b)) = F := ⟨_, rfl⟩
          rw [hFd] at HUK
          have HFF0 : Hid (∀ r, F r = (decide (r.st = 3) && openR (bestR l) r && decide (M ≤ K0 + K4 + lostGe l r.b))) := Lib.hid fun r => by rw [← hFd]
          clear hkn hnk hFd
          go_wp2_with fail
          go_loopw [12, 13] (fun kv iv wr => ∃ (i : Nat) (kb : Bool), i ≤ m ∧ iv = .int .i64 (i : Int) ∧ kv = .bool kb ∧ Hid (kb = !((l.take i).any F)) ∧ Hid (Ext W1 wr)) (fun _ iv _ => m - (intOf iv).toNat)
          case atStart => exact ⟨0, true, Nat.zero_le _, rfl, rfl, Lib.hid rfl, Lib.hid (Ext.refl _)⟩
          case round =>
            obtain ⟨i, kb, hi, rfl, rfl, HKB, HX⟩ := hrel
            by_cases hlt : i < m
            · obtain ⟨g, o, r, rfl, _, hb, hrc⟩ := Ls.rpt (HL.out.below HX.out) hlt
              obtain ⟨ix, st, rx, ry, e⟩ := r
              have HBR := Lib.hid hb
              have HTK := Lib.hid (take_oneR hb)
              have HFF : Hid (F ⟨ix, st, rx, ry, e⟩ = (decide (st = 3) && openR (bestR l) ⟨ix, st, rx, ry, e⟩ && decide (M ≤ K0 + K4 + lostGe l ⟨rx, ry⟩))) := Lib.hid (HFF0.out _)
              obtain ⟨_, c1, c2, c3, _⟩ := hrc
              dsimp only at c1 c2 c3
              clear hb
              by_cases hs : st = 3
              · subst hs
                rcases HBZ.out with ⟨hz, hbn⟩ | ⟨kq, q, hz, hqk, hbs⟩
                · have HOP : Hid (openR (bestR l) ⟨ix, 3, rx, ry, e⟩ = true) := Lib.hid (by rw [hbn]; rfl)
                  subst hz
                  clear hbn
                  go_wp2_with fail
                  go_region
                  clear c1 c2 c3
                  have HXi := Lib.hid (HX.out.trans (Ext.refl _).drew)
                  obtain ⟨V, hV⟩ : ∃ V, wr.drew = V := ⟨_, rfl⟩
                  rw [hV] at HXi ⊢
                  clear hV
                  obtain ⟨V1, hV1⟩ : ∃ V1, V1 = V := ⟨_, rfl⟩
                  subst hV1
                  go_wp2_with fail
                  go_loopw [14, 15] (fun mv kv wr => ∃ k : Nat, k ≤ m ∧ kv = .int .i64 (k : Int) ∧ mv = .int .i64 ((K0 + K4 + (l.take k).countP (fun k : Rpt => decide (k.st = 3) && !ltB k.b ⟨rx, ry⟩) : Nat) : Int) ∧ Hid (Ext W1 wr)) (fun _ kv _ => m - (intOf kv).toNat)
                  case atStart => exact ⟨0, Nat.zero_le _, rfl, by simp, HXi⟩
                  case round =>
                    obtain ⟨k, hk, rfl, rfl, HXj⟩ := hrel
                    have hct : (l.take k).countP (fun k : Rpt => decide (k.st = 3) && !ltB k.b ⟨rx, ry⟩) ≤ 7 := Nat.le_trans List.countP_le_length (by rw [List.length_take]; omega)
                    by_cases hlt2 : k < m
                    · obtain ⟨g2, o2, r2, eA2, _, hb2, hrc2⟩ := Ls.rpt (HL.out.below HXj.out) hlt2
                      injection eA2 with eA2
                      injection eA2 with eA2 eA3
                      subst eA2 eA3
                      obtain ⟨ix2, st2, sx, sy, e2⟩ := r2
                      have HTK2 := Lib.hid (take_oneR hb2)
                      obtain ⟨_, c1, c2, c3, _⟩ := hrc2
                      dsimp only at c1 c2 c3
                      have d2 := (HL.out.below HXj.out |> fun h => RCat h HBR.out).2.2.1
                      have d3 := (HL.out.below HXj.out |> fun h => RCat h HBR.out).2.2.2.1
                      dsimp only at d2 d3
                      obtain ⟨T, hT⟩ : ∃ T, (l.take k).countP (fun k : Rpt => decide (k.st = 3) && !ltB k.b ⟨rx, ry⟩) = T := ⟨_, rfl⟩
                      rw [hT] at hct ⊢
                      have HT := Lib.hid hT
                      clear hb2 hT
                      by_cases hs2 : st2 = 3
                      · subst hs2
                        have HLS := Lib.hid (fun V => rless_of sx sy rx ry V)
                        obtain ⟨rr, hrr⟩ : ∃ rr, ltB ⟨sx, sy⟩ ⟨rx, ry⟩ = rr := ⟨_, rfl⟩
                        rw [hrr] at HLS
                        have HRR := Lib.hid hrr
                        have HC := Lib.hid (And.intro c1 (And.intro c2 (And.intro c3 (And.intro d2 d3))))
                        clear hrr
                        cases rr with
                        | true =>
                          go_wp2_with fail
                          go_region_held3 (fun w' => w'.cell? ⟨g, o + k * 11 + 1, none⟩ = some (.int .u8 3) ∧ w'.cell? ⟨g, o + k * 11 + 2, none⟩ = some (.int .i64 sx) ∧ w'.cell? ⟨g, o + k * 11 + 3, none⟩ = some (.int .i64 sy) ∧ w'.cell? ⟨g, o + i * 11 + 2, none⟩ = some (.int .i64 rx) ∧ w'.cell? ⟨g, o + i * 11 + 3, none⟩ = some (.int .i64 ry))
                            (first | with_reducible exact ⟨c1, c2, c3, d2, d3⟩ | assumption | go_keep)
                            (first | (go_at_call 28; ((with_reducible refine (HLS.out _).mono ?_); rintro e w3 ⟨rfl, hx⟩; have hk5 := keep5C hx HC)))
                          have HXn := Lib.hid (HXj.out.trans ((Ext.refl _).drew.trans hx))
                          clear c1 c2 c3 d2 d3 hx hk5 HLS HC
                          go_wp2_with fail
                          go_roundw
                          case rel =>
                            refine ⟨k + 1, by omega, by go_num, ?_, HXn⟩
                            rw [HTK2.out, List.countP_append, HT.out, List.countP_cons, List.countP_nil]
                            rw [show (decide ((⟨ix2, 3, sx, sy, e2⟩ : Rpt).st = 3) && !ltB (Rpt.b ⟨ix2, 3, sx, sy, e2⟩) ⟨rx, ry⟩) = false by show (true && !ltB ⟨sx, sy⟩ ⟨rx, ry⟩) = false; rw [HRR.out]; rfl]
                            simp
                          case measure => simp [intOf]; omega
                        | false =>
                          go_wp2_with fail
                          go_region_held3 (fun w' => w'.cell? ⟨g, o + k * 11 + 1, none⟩ = some (.int .u8 3) ∧ w'.cell? ⟨g, o + k * 11 + 2, none⟩ = some (.int .i64 sx) ∧ w'.cell? ⟨g, o + k * 11 + 3, none⟩ = some (.int .i64 sy) ∧ w'.cell? ⟨g, o + i * 11 + 2, none⟩ = some (.int .i64 rx) ∧ w'.cell? ⟨g, o + i * 11 + 3, none⟩ = some (.int .i64 ry))
                            (first | with_reducible exact ⟨c1, c2, c3, d2, d3⟩ | assumption | go_keep)
                            (first | (go_at_call 28; ((with_reducible refine (HLS.out _).mono ?_); rintro e w3 ⟨rfl, hx⟩; have hk5 := keep5C hx HC)))
                          have HXn := Lib.hid (HXj.out.trans ((Ext.refl _).drew.trans hx))
                          clear c1 c2 c3 d2 d3 hx hk5 HLS HC
                          go_wp2_with fail
                          go_roundw
                          case rel =>
                            refine ⟨k + 1, by omega, by go_num, ?_, HXn⟩
                            rw [HTK2.out, List.countP_append, HT.out, List.countP_cons, List.countP_nil]
                            rw [show (decide ((⟨ix2, 3, sx, sy, e2⟩ : Rpt).st = 3) && !ltB (Rpt.b ⟨ix2, 3, sx, sy, e2⟩) ⟨rx, ry⟩) = true by show (true && !ltB ⟨sx, sy⟩ ⟨rx, ry⟩) = true; rw [HRR.out]; rfl]
                            go_num
                          case measure => simp [intOf]; omega
                      · have e3 : ((st2 : Int) == 3) = false := by rw [st_is3]; exact decide_eq_false hs2
                        have HS2 := Lib.hid hs2
                        clear hs2
                        go_wp2_with fail
                        go_region
                        clear c1 c2 c3 d2 d3
                        have HXn := Lib.hid (HXj.out.trans (Ext.refl _).drew)
                        go_wp2_with fail
                        go_roundw
                        case rel =>
                          refine ⟨k + 1, by omega, by go_num, ?_, HXn⟩
                          rw [HTK2.out, List.countP_append, HT.out, List.countP_cons, List.countP_nil]
                          rw [show (decide ((⟨ix2, st2, sx, sy, e2⟩ : Rpt).st = 3) && !ltB (Rpt.b ⟨ix2, st2, sx, sy, e2⟩) ⟨rx, ry⟩) = false by show (decide (st2 = 3) && _) = false; rw [decide_eq_false HS2.out]; rfl]
                          simp
                        case measure => simp [intOf]; omega
                    · obtain rfl : k = m := by omega
                      have e : l.take k = l := List.take_of_length_le (by rw [HLN.out]; exact Nat.le_refl _)
                      rw [e] at hct ⊢
                      obtain ⟨T, hT⟩ : ∃ T, l.countP (fun k : Rpt => decide (k.st = 3) && !ltB k.b ⟨rx, ry⟩) = T := ⟨_, rfl⟩
                      have HT : Hid (lostGe l ⟨rx, ry⟩ = T) := Lib.hid hT
                      rw [hT] at hct ⊢
                      clear e hT
                      by_cases hmt : M ≤ K0 + K4 + T
                      · have hmz : (M : Int) ≤ (K0 : Int) + (K4 : Int) + (T : Int) := by omega
                        have hnw : Hid (false = !((l.take (i + 1)).any F)) := Lib.hid (by
                          rw [HTK.out, List.any_append, List.any_cons, List.any_nil, HFF.out, HOP.out, HT.out, decide_eq_true hmt]
                          simp)
                        clear hmt
                        go_wp2_with fail
                        go_roundw
                        case rel => exact ⟨i + 1, _, by omega, by go_num, rfl, hnw, HXj⟩
                        case measure => simp [intOf]; omega
                      · have hmz : ¬ (M : Int) ≤ (K0 : Int) + (K4 : Int) + (T : Int) := by omega
                        have hnw : Hid (kb = !((l.take (i + 1)).any F)) := Lib.hid (by
                          rw [HTK.out, List.any_append, List.any_cons, List.any_nil, HFF.out, HOP.out, HT.out, decide_eq_false hmt, HKB.out]
                          simp)
                        clear hmt
                        go_wp2_with fail
                        go_roundw
                        case rel => exact ⟨i + 1, _, by omega, by go_num, rfl, hnw, HXj⟩
                        case measure => simp [intOf]; omega
                · subst hz
                  have hkn : kq < m := by have := (List.getElem?_eq_some_iff.1 hqk).1; rw [HLN.out] at this; exact this
                  have hrq := RCat (HL.out.below HX.out) hqk
                  obtain ⟨ix1, st1, qx, qy, eq1⟩ := q
                  obtain ⟨_, _, d2, d3, _⟩ := hrq
                  dsimp only at d2 d3
                  have hkz : decide (0 ≤ (kq : Int)) = true := decide_eq_true (by omega)
                  have HOQ : Hid (openR (bestR l) ⟨ix, 3, rx, ry, e⟩ = ltB ⟨qx, qy⟩ ⟨rx, ry⟩) := Lib.hid (by rw [hbs]; rfl)
                  have HLS := Lib.hid (fun V => rless_of qx qy rx ry V)
                  obtain ⟨rr, hrr⟩ : ∃ rr, ltB ⟨qx, qy⟩ ⟨rx, ry⟩ = rr := ⟨_, rfl⟩
                  rw [hrr] at HLS HOQ
                  have HC := Lib.hid (And.intro c1 (And.intro d2 (And.intro d3 (And.intro c2 c3))))
                  clear hrr hqk hbs
                  cases rr with
                  | true =>
                    have HOP := HOQ
                    go_wp2_with fail
                    go_region_held3 (fun w' => w'.cell? ⟨g, o + i * 11 + 1, none⟩ = some (.int .u8 3) ∧ w'.cell? ⟨g, o + kq * 11 + 2, none⟩ = some (.int .i64 qx) ∧ w'.cell? ⟨g, o + kq * 11 + 3, none⟩ = some (.int .i64 qy) ∧ w'.cell? ⟨g, o + i * 11 + 2, none⟩ = some (.int .i64 rx) ∧ w'.cell? ⟨g, o + i * 11 + 3, none⟩ = some (.int .i64 ry))
                      (first | with_reducible exact ⟨c1, d2, d3, c2, c3⟩ | assumption | go_keep)
                      (first | (go_at_call 28; ((with_reducible refine (HLS.out _).mono ?_); rintro e w3 ⟨rfl, hx⟩; have hk5 := keep5C hx HC)))
                    have HXi := Lib.hid (HX.out.trans ((Ext.refl _).drew.trans hx))
                    clear c1 c2 c3 d2 d3 hx hk5 HLS HC
                    obtain ⟨V, hV⟩ : ∃ V, V = w3 := ⟨_, rfl⟩
                    subst hV
                    obtain ⟨V1, hV1⟩ : ∃ V1, V1 = V := ⟨_, rfl⟩
                    subst hV1
                    go_wp2_with fail
                    go_loopw [14, 15] (fun mv kv wr => ∃ k : Nat, k ≤ m ∧ kv = .int .i64 (k : Int) ∧ mv = .int .i64 ((K0 + K4 + (l.take k).countP (fun k : Rpt => decide (k.st = 3) && !ltB k.b ⟨rx, ry⟩) : Nat) : Int) ∧ Hid (Ext W1 wr)) (fun _ kv _ => m - (intOf kv).toNat)
                    case atStart => exact ⟨0, Nat.zero_le _, rfl, by simp, HXi⟩
                    case round =>
                      obtain ⟨k, hk, rfl, rfl, HXj⟩ := hrel
                      have hct : (l.take k).countP (fun k : Rpt => decide (k.st = 3) && !ltB k.b ⟨rx, ry⟩) ≤ 7 := Nat.le_trans List.countP_le_length (by rw [List.length_take]; omega)
                      by_cases hlt2 : k < m
                      · obtain ⟨g2, o2, r2, eA2, _, hb2, hrc2⟩ := Ls.rpt (HL.out.below HXj.out) hlt2
                        injection eA2 with eA2
                        injection eA2 with eA2 eA3
                        subst eA2 eA3
                        obtain ⟨ix2, st2, sx, sy, e2⟩ := r2
                        have HTK2 := Lib.hid (take_oneR hb2)
                        obtain ⟨_, c1, c2, c3, _⟩ := hrc2
                        dsimp only at c1 c2 c3
                        have d2 := (HL.out.below HXj.out |> fun h => RCat h HBR.out).2.2.1
                        have d3 := (HL.out.below HXj.out |> fun h => RCat h HBR.out).2.2.2.1
                        dsimp only at d2 d3
                        obtain ⟨T, hT⟩ : ∃ T, (l.take k).countP (fun k : Rpt => decide (k.st = 3) && !ltB k.b ⟨rx, ry⟩) = T := ⟨_, rfl⟩
                        rw [hT] at hct ⊢
                        have HT := Lib.hid hT
                        clear hb2 hT
                        by_cases hs2 : st2 = 3
                        · subst hs2
                          have HLS := Lib.hid (fun V => rless_of sx sy rx ry V)
                          obtain ⟨rr, hrr⟩ : ∃ rr, ltB ⟨sx, sy⟩ ⟨rx, ry⟩ = rr := ⟨_, rfl⟩
                          rw [hrr] at HLS
                          have HRR := Lib.hid hrr
                          have HC := Lib.hid (And.intro c1 (And.intro c2 (And.intro c3 (And.intro d2 d3))))
                          clear hrr
                          cases rr with
                          | true =>
                            go_wp2_with fail
                            go_region_held3 (fun w' => w'.cell? ⟨g, o + k * 11 + 1, none⟩ = some (.int .u8 3) ∧ w'.cell? ⟨g, o + k * 11 + 2, none⟩ = some (.int .i64 sx) ∧ w'.cell? ⟨g, o + k * 11 + 3, none⟩ = some (.int .i64 sy) ∧ w'.cell? ⟨g, o + i * 11 + 2, none⟩ = some (.int .i64 rx) ∧ w'.cell? ⟨g, o + i * 11 + 3, none⟩ = some (.int .i64 ry))
                              (first | with_reducible exact ⟨c1, c2, c3, d2, d3⟩ | assumption | go_keep)
                              (first | (go_at_call 28; ((with_reducible refine (HLS.out _).mono ?_); rintro e w3 ⟨rfl, hx⟩; have hk5 := keep5C hx HC)))
                            have HXn := Lib.hid (HXj.out.trans ((Ext.refl _).drew.trans hx))
                            clear c1 c2 c3 d2 d3 hx hk5 HLS HC
                            go_wp2_with fail
                            go_roundw
                            case rel =>
                              refine ⟨k + 1, by omega, by go_num, ?_, HXn⟩
                              rw [HTK2.out, List.countP_append, HT.out, List.countP_cons, List.countP_nil]
                              rw [show (decide ((⟨ix2, 3, sx, sy, e2⟩ : Rpt).st = 3) && !ltB (Rpt.b ⟨ix2, 3, sx, sy, e2⟩) ⟨rx, ry⟩) = false by show (true && !ltB ⟨sx, sy⟩ ⟨rx, ry⟩) = false; rw [HRR.out]; rfl]
                              simp
                            case measure => simp [intOf]; omega
                          | false =>
                            go_wp2_with fail
                            go_region_held3 (fun w' => w'.cell? ⟨g, o + k * 11 + 1, none⟩ = some (.int .u8 3) ∧ w'.cell? ⟨g, o + k * 11 + 2, none⟩ = some (.int .i64 sx) ∧ w'.cell? ⟨g, o + k * 11 + 3, none⟩ = some (.int .i64 sy) ∧ w'.cell? ⟨g, o + i * 11 + 2, none⟩ = some (.int .i64 rx) ∧ w'.cell? ⟨g, o + i * 11 + 3, none⟩ = some (.int .i64 ry))
                              (first | with_reducible exact ⟨c1, c2, c3, d2, d3⟩ | assumption | go_keep)
                              (first | (go_at_call 28; ((with_reducible refine (HLS.out _).mono ?_); rintro e w3 ⟨rfl, hx⟩; have hk5 := keep5C hx HC)))
                            have HXn := Lib.hid (HXj.out.trans ((Ext.refl _).drew.trans hx))
                            clear c1 c2 c3 d2 d3 hx hk5 HLS HC
                            go_wp2_with fail
                            go_roundw
                            case rel =>
                              refine ⟨k + 1, by omega, by go_num, ?_, HXn⟩
                              rw [HTK2.out, List.countP_append, HT.out, List.countP_cons, List.countP_nil]
                              rw [show (decide ((⟨ix2, 3, sx, sy, e2⟩ : Rpt).st = 3) && !ltB (Rpt.b ⟨ix2, 3, sx, sy, e2⟩) ⟨rx, ry⟩) = true by show (true && !ltB ⟨sx, sy⟩ ⟨rx, ry⟩) = true; rw [HRR.out]; rfl]
                              go_num
                            case measure => simp [intOf]; omega
                        · have e3 : ((st2 : Int) == 3) = false := by rw [st_is3]; exact decide_eq_false hs2
                          have HS2 := Lib.hid hs2
                          clear hs2
                          go_wp2_with fail
                          go_region
                          clear c1 c2 c3 d2 d3
                          have HXn := Lib.hid (HXj.out.trans (Ext.refl _).drew)
                          go_wp2_with fail
                          go_roundw
                          case rel =>
                            refine ⟨k + 1, by omega, by go_num, ?_, HXn⟩
                            rw [HTK2.out, List.countP_append, HT.out, List.countP_cons, List.countP_nil]
                            rw [show (decide ((⟨ix2, st2, sx, sy, e2⟩ : Rpt).st = 3) && !ltB (Rpt.b ⟨ix2, st2, sx, sy, e2⟩) ⟨rx, ry⟩) = false by show (decide (st2 = 3) && _) = false; rw [decide_eq_false HS2.out]; rfl]
                            simp
                          case measure => simp [intOf]; omega
                      · obtain rfl : k = m := by omega
                        have e : l.take k = l := List.take_of_length_le (by rw [HLN.out]; exact Nat.le_refl _)
                        rw [e] at hct ⊢
                        obtain ⟨T, hT⟩ : ∃ T, l.countP (fun k : Rpt => decide (k.st = 3) && !ltB k.b ⟨rx, ry⟩) = T := ⟨_, rfl⟩
                        have HT : Hid (lostGe l ⟨rx, ry⟩ = T) := Lib.hid hT
                        rw [hT] at hct ⊢
                        clear e hT
                        by_cases hmt : M ≤ K0 + K4 + T
                        · have hmz : (M : Int) ≤ (K0 : Int) + (K4 : Int) + (T : Int) := by omega
                          have hnw : Hid (false = !((l.take (i + 1)).any F)) := Lib.hid (by
                            rw [HTK.out, List.any_append, List.any_cons, List.any_nil, HFF.out, HOP.out, HT.out, decide_eq_true hmt]
                            simp)
                          clear hmt
                          go_wp2_with fail
                          go_roundw
                          case rel => exact ⟨i + 1, _, by omega, by go_num, rfl, hnw, HXj⟩
                          case measure => simp [intOf]; omega
                        · have hmz : ¬ (M : Int) ≤ (K0 : Int) + (K4 : Int) + (T : Int) := by omega
                          have hnw : Hid (kb = !((l.take (i + 1)).any F)) := Lib.hid (by
                            rw [HTK.out, List.any_append, List.any_cons, List.any_nil, HFF.out, HOP.out, HT.out, decide_eq_false hmt, HKB.out]
                            simp)
                          clear hmt
                          go_wp2_with fail
                          go_roundw
                          case rel => exact ⟨i + 1, _, by omega, by go_num, rfl, hnw, HXj⟩
                          case measure => simp [intOf]; omega
                  | false =>
                    go_wp2_with fail
                    go_region_held3 (fun w' => w'.cell? ⟨g, o + i * 11 + 1, none⟩ = some (.int .u8 3) ∧ w'.cell? ⟨g, o + kq * 11 + 2, none⟩ = some (.int .i64 qx) ∧ w'.cell? ⟨g, o + kq * 11 + 3, none⟩ = some (.int .i64 qy) ∧ w'.cell? ⟨g, o + i * 11 + 2, none⟩ = some (.int .i64 rx) ∧ w'.cell? ⟨g, o + i * 11 + 3, none⟩ = some (.int .i64 ry))
                      (first | with_reducible exact ⟨c1, d2, d3, c2, c3⟩ | assumption | go_keep)
                      (first | (go_at_call 28; ((with_reducible refine (HLS.out _).mono ?_); rintro e w3 ⟨rfl, hx⟩; have hk5 := keep5C hx HC)))
                    have HXi := Lib.hid (HX.out.trans ((Ext.refl _).drew.trans hx))
                    clear c1 c2 c3 d2 d3 hx hk5 HLS HC
                    have hnw : Hid (kb = !((l.take (i + 1)).any F)) := Lib.hid (by
                      rw [HTK.out, List.any_append, List.any_cons, List.any_nil, HFF.out, HOQ.out, HKB.out]
                      simp)
                    go_wp2_with fail
                    go_roundw
                    case rel => exact ⟨i + 1, _, by omega, by go_num, rfl, hnw, HXi⟩
                    case measure => simp [intOf]; omega
              · have e3 : ((st : Int) != 3) = true := by rw [bne, st_is3, decide_eq_false hs]; rfl
                have hd3 : decide (st = 3) = false := decide_eq_false hs
                have HD3 := Lib.hid hd3
                clear hs hd3
                go_wp2_with fail
                go_region
                clear c1 c2 c3
                have HXi := Lib.hid (HX.out.trans (Ext.refl _).drew)
                have hnw : Hid (kb = !((l.take (i + 1)).any F)) := Lib.hid (by
                  rw [HTK.out, List.any_append, List.any_cons, List.any_nil, HFF.out, HD3.out, HKB.out]
                  simp)
                go_wp2_with fail
                go_roundw
                case rel => exact ⟨i + 1, _, by omega, by go_num, rfl, hnw, HXi⟩
                case measure => simp [intOf]; omega
            · obtain rfl : i = m := by omega
              have hu : Hid (kb = !undR M (K0 + K4) l) := Lib.hid (by rw [HUK.out, HKB.out, List.take_of_length_le (by rw [HLN.out]; exact Nat.le_refl _)])
              have HU := hu
              have HV0 := Lib.hid (And.intro (HV.out.1.trans HX.out) (keep_rowB HX.out HV.out.2))
              have HL0 := Lib.hid ((HL.out.below HX.out).moreB HX.out.size)
              clear HV HL HX hu HKB HUK HFF0
              have HV := HV0
              have HL := HL0
              clear HV0 HL0
              obtain ⟨m, hm⟩ : ∃ m, m = i := ⟨_, rfl⟩
              subst hm
              cases kb with
              | false =>
                have hu : undR M (K0 + K4) l = true := by
                  have := HU.out
                  cases hc : undR M (K0 + K4) l with
                  | true => rfl
                  | false => rw [hc] at this; cases this
                by_cases hk00 : K0 = 0
                · have hkz : ¬ 0 < K0 := by omega
                  have hfin : decR (m : Int) l = valR (bestR l) := by
                    rw [HOK.out.1, HW.out, hu, decide_eq_false hkz]
                    rfl
                  have HFN := Lib.hid hfin
                  clear hfin hu hk00
                  rcases HBZ.out with ⟨rfl, hbn⟩ | ⟨kq, q, rfl, hqk, hbs⟩
                  · have HFQ : Hid (decR (m : Int) l = (1, noopE)) := Lib.hid (by rw [HFN.out, hbn]; rfl)
                    obtain ⟨_, e0, e1, e2, e3, e4, e5, e6⟩ := ent_row HV.out.2
                    go_upto_region 99 with (fail)
                    change bodyPost _ _ _ _ _ (S7 wr b noopE)
                    have hrw := S7.row noopE HV.out.2
                    have hxw : Ext w (S7 wr b (noopE : Ent)) := S7.ext noopE HV.out.1 (by rw [HB.out]; exact Nat.le_refl _)
                    generalize (S7 wr b (noopE : Ent)) = V9 at hrw hxw ⊢
                    obtain ⟨⟨d0, d1, d2, d3, d4, d5, d6⟩, _⟩ := ent_row hrw
                    refine bodyPost_ret (v := .tuple #[.int .i64 1, eA noopE, .int .i64 0]) (by simp [results, Try.results11, go_sem, d0, d1, d2, d3, d4, d5, d6]) rfl ?_
                    refine ⟨?_, hxw⟩
                    rw [← hR, ← hF, HFQ.out, HOK.out.2]
                    rfl
                  · have HFQ : Hid (decR (m : Int) l = (2, q.e)) := Lib.hid (by rw [HFN.out, hbs]; rfl)
                    have hkn : kq < m := by have := (List.getElem?_eq_some_iff.1 hqk).1; rw [HLN.out] at this; exact this
                    obtain ⟨g, o, q1, rfl, _, hq1, hrq⟩ := Ls.rpt (HL.out.below ((Ext.refl wr))) hkn
                    rw [hqk] at hq1
                    injection hq1 with hq1
                    subst hq1
                    obtain ⟨ix, st, rx, ry, e⟩ := q
                    obtain ⟨c0, c1, c2, c3, c4, c5, c6, c7, c8, c9, c10⟩ := hrq
                    dsimp only at c4 c5 c6 c7 c8 c9 c10 HFQ
                    obtain ⟨_, e0, e1, e2, e3, e4, e5, e6⟩ := ent_row HV.out.2
                    have hkqz : decide ((kq : Int) < 0) = false := decide_eq_false (by omega)
                    have hcap := HL.out.cap
                    clear hqk hbs c0 c1 c2 c3
                    go_wp2_with fail
                    go_region
                    change Exit.then _ _ _ _ ((S7 wr b e).drew)
                    have hrw := keep_rowB ((Ext.refl (S7 wr b e)).drew) (S7.row e HV.out.2)
                    have hxw : Ext w ((S7 wr b e).drew) := (S7.ext e HV.out.1 (by rw [HB.out]; exact Nat.le_refl _)).drew
                    generalize (S7 wr b e).drew = V9 at hrw hxw ⊢
                    clear c4 c5 c6 c7 c8 c9 c10 e0 e1 e2 e3 e4 e5 e6
                    have HRW := Lib.hid hrw
                    have HXW := Lib.hid hxw
                    clear hrw hxw
                    go_wp2_with fail
                    obtain ⟨⟨d0, d1, d2, d3, d4, d5, d6⟩, _⟩ := ent_row HRW.out
                    refine bodyPost_ret (v := .tuple #[.int .i64 2, eA e, .int .i64 0]) (by simp [results, Try.results11, go_sem, d0, d1, d2, d3, d4, d5, d6]) rfl ?_
                    refine ⟨?_, HXW.out⟩
                    rw [← hR, ← hF, HFQ.out, HOK.out.2]
                    rfl
                · have hkz : 0 < K0 := by omega
                  have hfin : decR (m : Int) l = (0, {}) := by
                    rw [HOK.out.1, HW.out, hu, decide_eq_true hkz]
                    rfl
                  have HFN := Lib.hid hfin
                  clear hfin hu hk00
                  obtain ⟨_, e0, e1, e2, e3, e4, e5, e6⟩ := ent_row HV.out.2
                  go_upto_region 99 with (fail)
                  change bodyPost _ _ _ _ _ (S7 wr b {})
                  have hrw := S7.row {} HV.out.2
                  have hxw : Ext w (S7 wr b ({} : Ent)) := S7.ext {} HV.out.1 (by rw [HB.out]; exact Nat.le_refl _)
                  generalize (S7 wr b ({} : Ent)) = V9 at hrw hxw ⊢
                  obtain ⟨⟨d0, d1, d2, d3, d4, d5, d6⟩, _⟩ := ent_row hrw
                  refine bodyPost_ret (v := .tuple #[.int .i64 0, eA {}, .int .i64 0]) (by simp [results, Try.results11, go_sem, d0, d1, d2, d3, d4, d5, d6]) rfl ?_
                  refine ⟨?_, hxw⟩
                  rw [← hR, ← hF, HFN.out, HOK.out.2]
                  rfl
              | true =>
                have hu : undR M (K0 + K4) l = false := by
                  have := HU.out
                  cases hc : undR M (K0 + K4) l with
                  | false => rfl
                  | true => rw [hc] at this; cases this
                have hfin : decR (m : Int) l = valR (bestR l) := by
                  rw [HOK.out.1, HW.out, hu]
                  rfl
                have HFN := Lib.hid hfin
                clear hfin hu
                rcases HBZ.out with ⟨rfl, hbn⟩ | ⟨kq, q, rfl, hqk, hbs⟩
                · have HFQ : Hid (decR (m : Int) l = (1, noopE)) := Lib.hid (by rw [HFN.out, hbn]; rfl)
                  obtain ⟨_, e0, e1, e2, e3, e4, e5, e6⟩ := ent_row HV.out.2
                  go_upto_region 99 with (fail)
                  change bodyPost _ _ _ _ _ (S7 wr b noopE)
                  have hrw := S7.row noopE HV.out.2
                  have hxw : Ext w (S7 wr b (noopE : Ent)) := S7.ext noopE HV.out.1 (by rw [HB.out]; exact Nat.le_refl _)
                  generalize (S7 wr b (noopE : Ent)) = V9 at hrw hxw ⊢
                  obtain ⟨⟨d0, d1, d2, d3, d4, d5, d6⟩, _⟩ := ent_row hrw
                  refine bodyPost_ret (v := .tuple #[.int .i64 1, eA noopE, .int .i64 0]) (by simp [results, Try.results11, go_sem, d0, d1, d2, d3, d4, d5, d6]) rfl ?_
                  refine ⟨?_, hxw⟩
                  rw [← hR, ← hF, HFQ.out, HOK.out.2]
                  rfl
                · have HFQ : Hid (decR (m : Int) l = (2, q.e)) := Lib.hid (by rw [HFN.out, hbs]; rfl)
                  have hkn : kq < m := by have := (List.getElem?_eq_some_iff.1 hqk).1; rw [HLN.out] at this; exact this
                  obtain ⟨g, o, q1, rfl, _, hq1, hrq⟩ := Ls.rpt (HL.out.below ((Ext.refl wr))) hkn
                  rw [hqk] at hq1
                  injection hq1 with hq1
                  subst hq1
                  obtain ⟨ix, st, rx, ry, e⟩ := q
                  obtain ⟨c0, c1, c2, c3, c4, c5, c6, c7, c8, c9, c10⟩ := hrq
                  dsimp only at c4 c5 c6 c7 c8 c9 c10 HFQ
                  obtain ⟨_, e0, e1, e2, e3, e4, e5, e6⟩ := ent_row HV.out.2
                  have hkqz : decide ((kq : Int) < 0) = false := decide_eq_false (by omega)
                  have hcap := HL.out.cap
                  clear hqk hbs c0 c1 c2 c3
                  go_wp2_with fail
                  go_region
                  change Exit.then _ _ _ _ ((S7 wr b e).drew)
                  have hrw := keep_rowB ((Ext.refl (S7 wr b e)).drew) (S7.row e HV.out.2)
                  have hxw : Ext w ((S7 wr b e).drew) := (S7.ext e HV.out.1 (by rw [HB.out]; exact Nat.le_refl _)).drew
                  generalize (S7 wr b e).drew = V9 at hrw hxw ⊢
                  clear c4 c5 c6 c7 c8 c9 c10 e0 e1 e2 e3 e4 e5 e6
                  have HRW := Lib.hid hrw
                  have HXW := Lib.hid hxw
                  clear hrw hxw
                  go_wp2_with fail
                  obtain ⟨⟨d0, d1, d2, d3, d4, d5, d6⟩, _⟩ := ent_row HRW.out
                  refine bodyPost_ret (v := .tuple #[.int .i64 2, eA e, .int .i64 0]) (by simp [results, Try.results11, go_sem, d0, d1, d2, d3, d4, d5, d6]) rfl ?_
                  refine ⟨?_, HXW.out⟩
                  rw [← hR, ← hF, HFQ.out, HOK.out.2]
                  rfl
  · have HF : Hid (decR n l = (0, {}) ∧ decE n l = 2) := Lib.hid (dec_err (by unfold okR; rw [hlen, decide_eq_false hmn, Bool.and_false, Bool.false_and]))
    have hne : ((m : Int) != n) = true := by simpa using hmn
    clear hmn hm0 hlen
    obtain ⟨_, e0, e1, e2, e3, e4, e5, e6⟩ := ent_row HV.out.2
    go_upto_region 99 with (fail)
    change bodyPost _ _ _ _ _ (S7 W0 b {})
    have hrw := S7.row {} HV.out.2
    have hxw : Ext w (S7 W0 b ({} : Ent)) := S7.ext {} HV.out.1 (by rw [HB.out]; exact Nat.le_refl _)
    generalize (S7 W0 b ({} : Ent)) = V9 at hrw hxw ⊢
    obtain ⟨⟨d0, d1, d2, d3, d4, d5, d6⟩, _⟩ := ent_row hrw
    refine bodyPost_ret (v := .tuple #[.int .i64 0, eA {}, .int .i64 2]) (by simp [results, Try.results11, go_sem, d0, d1, d2, d3, d4, d5, d6]) rfl ?_
    refine ⟨?_, hxw⟩
    rw [← hR, ← hF, HF.out.1, HF.out.2]
    rfl
end
end Go.Proofs.Ytinflpheogglhaa
