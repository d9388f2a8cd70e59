/-
  The contract of choose's Decide.
-/
import Derived.Test.YtinflpheogglhaaP00
import Derived.Test.YtinflpheogglhaaP04
import Derived.RangeFuncNested
import Derived.RangeFuncBound
import Derived.RangeFuncCalls
import Derived.RangeFuncLeaves
import Derived.RangeFuncBox
import Derived.Maps.AppendAt
import Derived.Shelf.Abstract
import Derived.Shelf.RegionOpen
import Derived.WalkKit
import Derived.OwnWalkIn
import Derived.TacticsInMore
import Derived.LoopNIn
import Derived.LoopIn
import Derived.Deep.DeepCutAuto
namespace Go.Proofs.Ytinflpheogglhaa
set_option maxRecDepth 100000
section
open Go Go.RowKit
theorem most_not {n : Int} (h : mostQ n = 0) : crowdB n = false := by
  rw [← Bool.not_eq_true, crowdB_iff]
  rintro (rfl | rfl | rfl) <;> cases h
theorem most_half {n : Nat} (h : mostQ (n : Int) ≠ 0) : mostQ (n : Int) = n / 2 + 1 ∧ n ≤ 7 := by
  rcases mostQ_cases h with e | e | e
  · obtain rfl : n = 3 := by omega
    exact ⟨rfl, by decide⟩
  · obtain rfl : n = 5 := by omega
    exact ⟨rfl, by decide⟩
  · obtain rfl : n = 7 := by omega
    exact ⟨rfl, by decide⟩
theorem dec_err {n : Int} {l : List Rpt} (h : okR n l = false) : decR n l = (0, {}) ∧ decE n l = 2 := by
  unfold decR decE
  rw [h]
  exact ⟨rfl, rfl⟩
theorem dec_ok {n : Int} {l : List Rpt} (h : okR n l = true) : decR n l = (if waitR l then (0, {}) else valR (bestR l)) ∧ decE n l = 0 := by
  unfold decR decE
  rw [h]
  exact ⟨rfl, rfl⟩
theorem ok_all {n : Nat} {l : List Rpt} (hl : l.length = n) (h : mostQ (n : Int) ≠ 0) : okR (n : Int) l = !l.any fun r => decide (4 < r.st) := by
  rw [Bool.eq_iff_iff, okR_iff, Bool.not_eq_true', List.any_eq_false]
  constructor
  · exact fun h1 r hr => by rw [decide_eq_true_iff]; have := h1.2.2 r hr; omega
  · exact fun h1 => ⟨mostQ_cases h, by rw [hl], fun r hr => by have := h1 r hr; rw [decide_eq_true_iff] at this; omega⟩
set_option maxHeartbeats 800000 in
theorem decide_of (n : Int) (A : Option Addr) (m c : Nat) (l : List Rpt) (w : World) (h : Ls rptC 11 w w.heap.size A m c l) :
    Calls Try.prog 10 #[.int .i64 n, .slice A m c] w fun e w' => e = .returned (.tuple #[.int .u8 ((decR n l).1 : Int), eA (decR n l).2, .int .i64 (decE n l)]) ∧ Ext w w' := by
  obtain ⟨R, hR⟩ : ∃ R, decR n l = R := ⟨_, rfl⟩
  obtain ⟨F, hF⟩ : ∃ F, decE n l = F := ⟨_, rfl⟩
  rw [hR, hF]
  obtain ⟨W0, hW0⟩ : ∃ W0, w.alloc (.cells #[.int .u8 0, .int .i64 0, .int .i64 0, .int .u8 0, .string ⟨#[]⟩, .string ⟨#[]⟩, .string ⟨#[]⟩] 27) = W0 := ⟨_, rfl⟩
  have hE : Ext w W0 := by rw [← hW0]; exact (Ext.refl w).alloc _
  have hr0 : W0.heap[w.heap.size]? = some (.cells #[.int .u8 0, .int .i64 0, .int .i64 0, .int .u8 0, .string ⟨#[]⟩, .string ⟨#[]⟩, .string ⟨#[]⟩] 27 (0, 0)) := by rw [← hW0]; exact heap_alloc_new w _
  have hl0 := (h.below hE).moreB hE.size
  have hlen := h.len
  have hc2 := containsR_of (.inl rfl) cinv_of A m c l W0 hl0
  have HV := Lib.hid (And.intro hE hr0)
  have HW0 := Lib.hid hW0
  have HL := Lib.hid hl0
  clear hW0 h hE hr0 hl0
  go_enter Try.func10, Try.ntmps10
  go_upto_region 1 with (fail)
  rw [HW0.out]
  obtain ⟨b, hb⟩ : ∃ b, w.heap.size = b := ⟨_, rfl⟩
  rw [hb] at HV ⊢
  have HB := Lib.hid hb
  clear hb HW0
  go_wp2_with fail
  refine (most_of n _).mono ?_
  rintro _ w1 ⟨rfl, hw⟩
  subst hw
  by_cases hm0 : mostQ n = 0
  · have HF : Hid (decR n l = (0, {}) ∧ decE n l = 2) := Lib.hid (dec_err (by unfold okR; rw [most_not hm0]; rfl))
    obtain ⟨_, e0, e1, e2, e3, e4, e5, e6⟩ := ent_row HV.out.2
    rw [hm0]
    clear hm0 hc2 hlen
    go_upto_region 99 with (fail)
    change bodyPost _ _ _ _ _ (S7 W0 b {})
    have HV2 : Hid (Ext w (S7 W0 b {}) ∧ (S7 W0 b {}).heap[b]? = some (.cells #[.int .u8 (({} : Ent).k : Int), .int .i64 ({} : Ent).cl, .int .i64 ({} : Ent).sq, .int .u8 (({} : Ent).ok : Int), .string ({} : Ent).key, .string ({} : Ent).old, .string ({} : Ent).val] 27 (0, 0))) := Lib.hid ⟨S7.ext {} HV.out.1 (by rw [HB.out]; exact Nat.le_refl _), S7.row {} HV.out.2⟩
    clear HV
    have HV := HV2
    generalize (S7 W0 b {}) = V7 at *
    clear e0 e1 e2 e3 e4 e5 e6
    go_wp2_with fail
    obtain ⟨⟨d0, d1, d2, d3, d4, d5, d6⟩, _⟩ := ent_row HV.out.2
    refine bodyPost_ret (v := .tuple #[.int .u8 0, eA {}, .int .i64 2]) (by simp [results, Try.results10, go_sem, d0, d1, d2, d3, d4, d5, d6]) rfl ?_
    refine ⟨?_, HV.out.1⟩
    rw [← hR, ← hF, HF.out.1, HF.out.2]
    rfl
  have hmz : ((mostQ n : Int) == 0) = false := by simpa using hm0
  by_cases hmn : (m : Int) = n
  · subst hmn
    have hmost := most_half hm0
    have hm7 := hmost.2
    have hok := ok_all hlen hm0
    obtain ⟨M, hM⟩ : ∃ M, mostQ (m : Int) = M := ⟨_, rfl⟩
    rw [hM] at hmz hmost ⊢
    have hM20 : M ≤ 20 := by have := hmost.1; omega
    have HMO := Lib.hid hmost
    clear hmost
    obtain ⟨bad, hbad⟩ : ∃ bad, l.any (fun r => decide (4 < r.st)) = bad := ⟨_, rfl⟩
    rw [hbad] at hok hc2
    have HC2 := Lib.hid hc2
    clear hc2 hm0 hM hbad
    go_wp2_with fail
    refine HC2.out.mono ?_
    rintro _ w1 ⟨rfl, hx⟩
    have HV1 := Lib.hid (And.intro (HV.out.1.trans hx) (keep_rowB hx HV.out.2))
    have HL1 := Lib.hid ((HL.out.below hx).moreB hx.size)
    clear HV HL hx
    have HV := HV1
    have HL := HL1
    clear HV1 HL1 HC2
    cases bad with
    | true =>
      have HF : Hid (decR (m : Int) l = (0, {}) ∧ decE (m : Int) l = 2) := Lib.hid (dec_err hok)
      clear hok
      obtain ⟨_, e0, e1, e2, e3, e4, e5, e6⟩ := ent_row HV.out.2
      go_upto_region 99 with (fail)
      change bodyPost _ _ _ _ _ (S7 w1 b {})
      have HV2 : Hid (Ext w (S7 w1 b {}) ∧ (S7 w1 b {}).heap[b]? = some (.cells #[.int .u8 (({} : Ent).k : Int), .int .i64 ({} : Ent).cl, .int .i64 ({} : Ent).sq, .int .u8 (({} : Ent).ok : Int), .string ({} : Ent).key, .string ({} : Ent).old, .string ({} : Ent).val] 27 (0, 0))) := Lib.hid ⟨S7.ext {} HV.out.1 (by rw [HB.out]; exact Nat.le_refl _), S7.row {} HV.out.2⟩
      clear HV
      have HV := HV2
      generalize (S7 w1 b {}) = V7 at *
      clear e0 e1 e2 e3 e4 e5 e6
      go_wp2_with fail
      obtain ⟨⟨d0, d1, d2, d3, d4, d5, d6⟩, _⟩ := ent_row HV.out.2
      refine bodyPost_ret (v := .tuple #[.int .u8 0, eA {}, .int .i64 2]) (by simp [results, Try.results10, go_sem, d0, d1, d2, d3, d4, d5, d6]) rfl ?_
      refine ⟨?_, HV.out.1⟩
      rw [← hR, ← hF, HF.out.1, HF.out.2]
      rfl
    | false =>
      have hdk := dec_ok hok
      have hm20 : m ≤ 20 := by omega
      have HD := Lib.hid (descend_of A m c l M w1 HL.out hm20 (by omega))
      have hah := ansR_has M (l.countP unkR) l
      obtain ⟨u, hu⟩ : ∃ u, undR M (l.countP unkR) l = u := ⟨_, rfl⟩
      have hw : waitR l = (u && l.any fun r => decide (r.st = 0)) := by
        unfold waitR
        rw [hlen, ← HMO.out.1, hu]
      rw [hu] at hah
      clear hu
      obtain ⟨Q, hQ⟩ : ∃ Q, ansR M (l.countP unkR) (l.filter hasR) = Q := ⟨_, rfl⟩
      rw [hQ] at hah HD
      obtain ⟨q, E⟩ := Q
      dsimp only at HD
      have HHH := Lib.hid (And.intro hah (And.intro hdk hw))
      have HLEN := Lib.hid (And.intro hlen HMO.out)
      clear hah hdk hw hQ hok hlen HMO
      go_wp2_with fail
      refine HD.out.mono ?_
      rintro _ w2 ⟨rfl, hx⟩
      have HV2 := Lib.hid (And.intro (HV.out.1.trans hx) (keep_rowB hx HV.out.2))
      have HL2 := Lib.hid ((HL.out.below hx).moreB hx.size)
      clear HV HL hx HD
      go_upto_region 5 with (fail)
      have hg4 := heap_alloc_new w2 (.cells #[.int .u8 (E.k : Int), .int .i64 E.cl, .int .i64 E.sq, .int .u8 (E.ok : Int), .string E.key, .string E.old, .string E.val] 27)
      have hx4 := (Ext.refl w2).alloc (.cells #[.int .u8 (E.k : Int), .int .i64 E.cl, .int .i64 E.sq, .int .u8 (E.ok : Int), .string E.key, .string E.old, .string E.val] 27)
      have hlt4 : b < w2.heap.size := (Array.getElem?_eq_some_iff.1 HV2.out.2).1
      generalize (w2.alloc (.cells #[.int .u8 (E.k : Int), .int .i64 E.cl, .int .i64 E.sq, .int .u8 (E.ok : Int), .string E.key, .string E.old, .string E.val] 27)) = V at *
      have HV := Lib.hid (And.intro (HV2.out.1.trans hx4) (And.intro (keep_rowB hx4 HV2.out.2) hg4))
      have HL := Lib.hid ((HL2.out.below hx4).moreB hx4.size)
      generalize w2.heap.size = gb at *
      have HGB : Hid (b < gb) := Lib.hid hlt4
      clear hg4 hx4 HV2 HL2 hlt4
      by_cases hq : q = 0
      · subst hq
        cases u with
        | false => exact absurd (congrArg Prod.fst HHH.out.1).symm (valR_pos _)
        | true =>
          have hE0 : E = {} := congrArg Prod.snd HHH.out.1
          subst hE0
          obtain ⟨z, hz⟩ : ∃ z, l.any (fun r => decide (r.st = 0)) = z := ⟨_, rfl⟩
          have HC3 := Lib.hid (containsR_of (.inr rfl) cnone_of A m c l V HL.out)
          have HD2 := Lib.hid (fun V (hL : Ls rptC 11 V V.heap.size A m c l) => descend_of A m c l (m + 1) V hL hm20 (by omega))
          rw [ansR_has, undR_all l (by rw [HLEN.out.1]; omega), if_neg (by decide), show ((m + 1 : Nat) : Int) = (m : Int) + 1 by omega] at HD2
          have hhw := HHH.out.2.2
          rw [hz] at HC3 hhw
          have HHW := Lib.hid hhw
          clear hhw hz
          go_wp2_with fail
          refine HC3.out.mono ?_
          rintro _ w3 ⟨rfl, hx⟩
          have HV3 := Lib.hid (And.intro (HV.out.1.trans hx) (And.intro (keep_rowB hx HV.out.2.1) (keep_rowB hx HV.out.2.2)))
          have HL3 := Lib.hid ((HL.out.below hx).moreB hx.size)
          clear HV HL hx HC3
          cases z with
          | true =>
            have HV := HV3
            obtain ⟨V, hV⟩ : ∃ V, V = w3 := ⟨_, rfl⟩
            subst hV
            obtain ⟨⟨d0, d1, d2, d3, d4, d5, d6⟩, e0, e1, e2, e3, e4, e5, e6⟩ := ent_row HV.out.2.1
            obtain ⟨⟨f0, f1, f2, f3, f4, f5, f6⟩, _⟩ := ent_row HV.out.2.2
            go_wp2_with fail
            go_region
            change Exit.then _ _ _ _ ((S7 V b ({} : Ent)).drew)
            have hrw := keep_rowB ((Ext.refl (S7 V b ({} : Ent))).drew) (S7.row {} HV.out.2.1)
            have hxw : Ext w ((S7 V b ({} : Ent)).drew) := (S7.ext {} HV.out.1 (by rw [HB.out]; exact Nat.le_refl _)).drew
            generalize (S7 V b ({} : Ent)).drew = V9 at hrw hxw ⊢
            clear d0 d1 d2 d3 d4 d5 d6 e0 e1 e2 e3 e4 e5 e6 f0 f1 f2 f3 f4 f5 f6
            have HRW := Lib.hid hrw
            have HXW := Lib.hid hxw
            clear hrw hxw
            go_wp2_with fail
            obtain ⟨⟨d0, d1, d2, d3, d4, d5, d6⟩, _⟩ := ent_row HRW.out
            refine bodyPost_ret (v := .tuple #[.int .u8 0, eA {}, .int .i64 0]) (by simp [results, Try.results10, go_sem, d0, d1, d2, d3, d4, d5, d6]) rfl ?_
            refine ⟨?_, HXW.out⟩
            rw [← hR, ← hF, HHH.out.2.1.1, HHH.out.2.1.2, HHW.out]
            rfl
          | false =>
            obtain ⟨Q2, hQ2⟩ : ∃ Q2, valR (bestR l) = Q2 := ⟨_, rfl⟩
            have hfin : decR (m : Int) l = Q2 ∧ decE (m : Int) l = 0 := by
              rw [HHH.out.2.1.1, HHH.out.2.1.2, HHW.out, hQ2]
              exact ⟨rfl, rfl⟩
            have HFIN := Lib.hid hfin
            have HD3 := Lib.hid (HD2.out w3 HL3.out)
            rw [hQ2] at HD3
            obtain ⟨q2, E2⟩ := Q2
            dsimp only at HD3
            clear HD2 hQ2 hfin
            go_wp2_with fail
            refine HD3.out.mono ?_
            rintro _ w4 ⟨rfl, hx⟩
            have HV4 := Lib.hid (And.intro (HV3.out.1.trans hx) (And.intro (keep_rowB hx HV3.out.2.1) (keep_rowB hx HV3.out.2.2)))
            clear HV3 hx HD3
            obtain ⟨_, e0, e1, e2, e3, e4, e5, e6⟩ := ent_row HV4.out.2.2
            go_upto_region 7 with (fail)
            change Code.wp _ _ _ _ (S7 w4 gb E2)
            have HV : Hid (Ext w (S7 w4 gb E2) ∧ (S7 w4 gb E2).heap[b]? = some (.cells #[.int .u8 0, .int .i64 0, .int .i64 0, .int .u8 0, .string ⟨#[]⟩, .string ⟨#[]⟩, .string ⟨#[]⟩] 27 (0, 0)) ∧ (S7 w4 gb E2).heap[gb]? = some (.cells #[.int .u8 (E2.k : Int), .int .i64 E2.cl, .int .i64 E2.sq, .int .u8 (E2.ok : Int), .string E2.key, .string E2.old, .string E2.val] 27 (0, 0))) :=
              Lib.hid ⟨S7.ext E2 HV4.out.1 (by have h1 := HB.out; have h2 := HGB.out; omega), S7.off E2 (by have h2 := HGB.out; omega) HV4.out.2.1, S7.row E2 HV4.out.2.2⟩
            generalize (S7 w4 gb E2) = V7 at *
            clear e0 e1 e2 e3 e4 e5 e6 HV4
            obtain ⟨V, hV⟩ : ∃ V, V = V7 := ⟨_, rfl⟩
            subst hV
            obtain ⟨⟨d0, d1, d2, d3, d4, d5, d6⟩, e0, e1, e2, e3, e4, e5, e6⟩ := ent_row HV.out.2.1
            obtain ⟨⟨f0, f1, f2, f3, f4, f5, f6⟩, _⟩ := ent_row HV.out.2.2
            go_wp2_with fail
            go_region
            change Exit.then _ _ _ _ ((S7 V b (E2 : Ent)).drew)
            have hrw := keep_rowB ((Ext.refl (S7 V b (E2 : Ent))).drew) (S7.row E2 HV.out.2.1)
            have hxw : Ext w ((S7 V b (E2 : Ent)).drew) := (S7.ext E2 HV.out.1 (by rw [HB.out]; exact Nat.le_refl _)).drew
            generalize (S7 V b (E2 : Ent)).drew = V9 at hrw hxw ⊢
            clear d0 d1 d2 d3 d4 d5 d6 e0 e1 e2 e3 e4 e5 e6 f0 f1 f2 f3 f4 f5 f6
            have HRW := Lib.hid hrw
            have HXW := Lib.hid hxw
            clear hrw hxw
            go_wp2_with fail
            obtain ⟨⟨d0, d1, d2, d3, d4, d5, d6⟩, _⟩ := ent_row HRW.out
            refine bodyPost_ret (v := .tuple #[.int .u8 (q2 : Int), eA E2, .int .i64 0]) (by simp [results, Try.results10, go_sem, d0, d1, d2, d3, d4, d5, d6]) rfl ?_
            refine ⟨?_, HXW.out⟩
            rw [← hR, ← hF, HFIN.out.1, HFIN.out.2]
      · have hqz : ((q : Int) == 0) = false := by rw [st_is0]; exact decide_eq_false hq
        have hfin : decR (m : Int) l = (q, E) ∧ decE (m : Int) l = 0 := by
          have h1 := HHH.out.1
          rw [HHH.out.2.1.1, HHH.out.2.1.2, HHH.out.2.2]
          cases u with
          | true => exact absurd (congrArg Prod.fst h1) hq
          | false => exact ⟨h1.symm, rfl⟩
        have HFIN := Lib.hid hfin
        clear hfin hq
        obtain ⟨⟨d0, d1, d2, d3, d4, d5, d6⟩, e0, e1, e2, e3, e4, e5, e6⟩ := ent_row HV.out.2.1
        obtain ⟨⟨f0, f1, f2, f3, f4, f5, f6⟩, _⟩ := ent_row HV.out.2.2
        go_wp2_with fail
        go_region
        change Exit.then _ _ _ _ ((S7 V b (E : Ent)).drew)
        have hrw := keep_rowB ((Ext.refl (S7 V b (E : Ent))).drew) (S7.row E HV.out.2.1)
        have hxw : Ext w ((S7 V b (E : Ent)).drew) := (S7.ext E HV.out.1 (by rw [HB.out]; exact Nat.le_refl _)).drew
        generalize (S7 V b (E : Ent)).drew = V9 at hrw hxw ⊢
        clear d0 d1 d2 d3 d4 d5 d6 e0 e1 e2 e3 e4 e5 e6 f0 f1 f2 f3 f4 f5 f6
        have HRW := Lib.hid hrw
        have HXW := Lib.hid hxw
        clear hrw hxw
        go_wp2_with fail
        obtain ⟨⟨d0, d1, d2, d3, d4, d5, d6⟩, _⟩ := ent_row HRW.out
        refine bodyPost_ret (v := .tuple #[.int .u8 (q : Int), eA E, .int .i64 0]) (by simp [results, Try.results10, go_sem, d0, d1, d2, d3, d4, d5, d6]) rfl ?_
        refine ⟨?_, HXW.out⟩
        rw [← hR, ← hF, HFIN.out.1, HFIN.out.2]
  · have HF : Hid (decR n l = (0, {}) ∧ decE n l = 2) := Lib.hid (dec_err (by unfold okR; rw [hlen, decide_eq_false hmn, Bool.and_false, Bool.false_and]))
    have hne : ((m : Int) != n) = true := by simpa using hmn
    obtain ⟨M, hM⟩ : ∃ M, mostQ n = M := ⟨_, rfl⟩
    rw [hM] at hmz ⊢
    clear hmn hm0 hc2 hlen hM
    obtain ⟨_, e0, e1, e2, e3, e4, e5, e6⟩ := ent_row HV.out.2
    go_upto_region 99 with (fail)
    change bodyPost _ _ _ _ _ (S7 W0 b {})
    have HV2 : Hid (Ext w (S7 W0 b {}) ∧ (S7 W0 b {}).heap[b]? = some (.cells #[.int .u8 (({} : Ent).k : Int), .int .i64 ({} : Ent).cl, .int .i64 ({} : Ent).sq, .int .u8 (({} : Ent).ok : Int), .string ({} : Ent).key, .string ({} : Ent).old, .string ({} : Ent).val] 27 (0, 0))) := Lib.hid ⟨S7.ext {} HV.out.1 (by rw [HB.out]; exact Nat.le_refl _), S7.row {} HV.out.2⟩
    clear HV
    have HV := HV2
    generalize (S7 W0 b {}) = V7 at *
    clear e0 e1 e2 e3 e4 e5 e6
    go_wp2_with fail
    obtain ⟨⟨d0, d1, d2, d3, d4, d5, d6⟩, _⟩ := ent_row HV.out.2
    refine bodyPost_ret (v := .tuple #[.int .u8 0, eA {}, .int .i64 2]) (by simp [results, Try.results10, go_sem, d0, d1, d2, d3, d4, d5, d6]) rfl ?_
    refine ⟨?_, HV.out.1⟩
    rw [← hR, ← hF, HF.out.1, HF.out.2]
    rfl
end
section
open Go Go.RowKit
def eqE (a b : Ent) : Bool := decide (a.k = b.k ∧ a.cl = b.cl ∧ a.sq = b.sq ∧ a.ok = b.ok ∧ a.key = b.key ∧ a.old = b.old ∧ a.val = b.val)
theorem eqE_iff {a b : Ent} : eqE a b = true ↔ a = b := by
  unfold eqE
  rw [decide_eq_true_iff]
  obtain ⟨a1, a2, a3, a4, a5, a6, a7⟩ := a
  obtain ⟨b1, b2, b3, b4, b5, b6, b7⟩ := b
  constructor
  · rintro ⟨h1, h2, h3, h4, h5, h6, h7⟩
    dsimp only at h1 h2 h3 h4 h5 h6 h7
    rw [h1, h2, h3, h4, h5, h6, h7]
  · intro h
    injection h with h1 h2 h3 h4 h5 h6 h7
    exact ⟨h1, h2, h3, h4, h5, h6, h7⟩
theorem eqE_self (a : Ent) : eqE a a = true := eqE_iff.2 rfl
theorem toList_injR (a b : ByteArray) : a.toList = b.toList ↔ a = b := by
  rw [ByteArray.toList_eq, ByteArray.toList_eq]
  obtain ⟨a⟩ := a
  obtain ⟨b⟩ := b
  constructor
  · intro h
    have h' : a = b := Array.toList_inj.1 h
    rw [h']
  · intro h
    rw [h]
theorem ent_parts (a b : Ent) (r : Bool) (hr : eqE a b = r) {α : Type} (g : Bool → α) : (if (a.k : Int) = (b.k : Int) then if a.cl = b.cl then if a.sq = b.sq then if (a.ok : Int) = (b.ok : Int) then if a.key.toList = b.key.toList then if a.old.toList = b.old.toList then if a.val.toList = b.val.toList then g true else g false else g false else g false else g false else g false else g false else g false) = g r := by
  simp only [toList_injR]
  have hn : ∀ b', eqE a b = b' → g b' = g r := fun b' h => by rw [← h, hr]
  unfold eqE at hn
  by_cases h1 : a.k = b.k
  · by_cases h2 : a.cl = b.cl
    · by_cases h3 : a.sq = b.sq
      · by_cases h4 : a.ok = b.ok
        · by_cases h5 : a.key = b.key
          · by_cases h6 : a.old = b.old
            · by_cases h7 : a.val = b.val
              · rw [if_pos (by rw [h1]), if_pos h2, if_pos h3, if_pos (by rw [h4]), if_pos h5, if_pos h6, if_pos h7]
                exact hn _ (decide_eq_true ⟨h1, h2, h3, h4, h5, h6, h7⟩)
              · rw [if_pos (by rw [h1]), if_pos h2, if_pos h3, if_pos (by rw [h4]), if_pos h5, if_pos h6, if_neg h7]
                exact hn _ (decide_eq_false fun h => h7 h.2.2.2.2.2.2)
            · rw [if_pos (by rw [h1]), if_pos h2, if_pos h3, if_pos (by rw [h4]), if_pos h5, if_neg h6]
              exact hn _ (decide_eq_false fun h => h6 h.2.2.2.2.2.1)
          · rw [if_pos (by rw [h1]), if_pos h2, if_pos h3, if_pos (by rw [h4]), if_neg h5]
            exact hn _ (decide_eq_false fun h => h5 h.2.2.2.2.1)
        · rw [if_pos (by rw [h1]), if_pos h2, if_pos h3, if_neg (by omega)]
          exact hn _ (decide_eq_false fun h => h4 h.2.2.2.1)
      · rw [if_pos (by rw [h1]), if_pos h2, if_neg h3]
        exact hn _ (decide_eq_false fun h => h3 h.2.2.1)
    · rw [if_pos (by rw [h1]), if_neg h2]
      exact hn _ (decide_eq_false fun h => h2 h.2.1)
  · rw [if_neg (by omega)]
    exact hn _ (decide_eq_false fun h => h1 h.1)
theorem cent_eql (a b : Ent) (w : World) : (binOp .eql 27 (eA a) (eA b)).run Try.prog w = .ok (.bool (eqE a b)) w := by
  obtain ⟨r, hr⟩ : ∃ r, eqE a b = r := ⟨_, rfl⟩
  rw [hr]
  have hf : Try.prog.stoodInHeld 27 = false := by kernel_rfl
  have hu := Try.underlying27
  have hu2 := Try.underlying25
  rw [run_eql_struct, run_equalIn_agg _ _ _ _ _ (by rw [Program.fieldsOf, hu]) hf, Program.fieldsOf, hu]
  simp [Op.eqFields, go_sem]
  exact ent_parts a b r hr fun b => Result.ok (α := Value) (Value.bool b) w
end
section
open Go Go.RowKit
theorem wrap_modR (z : Int) (N : Nat) (h0 : 0 < N) (hN : N ≤ 1000) : ∃ q : Nat, q < N ∧ wrap64 ((IntKind.u64.wrap z).tmod (N : Int)) = (q : Int) := by
  have h1 : 0 ≤ IntKind.u64.wrap z := by rw [IntKind.wrap_u64]; omega
  have h2 := Int.emod_nonneg (IntKind.u64.wrap z) (show (N : Int) ≠ 0 by omega)
  have h3 := Int.emod_lt_of_pos (IntKind.u64.wrap z) (show (0 : Int) < N by omega)
  refine ⟨((IntKind.u64.wrap z) % N).toNat, by omega, ?_⟩
  rw [Int.tmod_eq_emod_of_nonneg h1, IntWalk.wrap64_in _ (by omega)]
  omega
theorem dec_is {n : Int} {l : List Rpt} (h : okR n l = true) : decR n l = (if waitR l then (0, {}) else valR (bestR l)) := (dec_ok h).1
end
section
open Go Go.RowKit Go.Shelf
attribute [local go_sem] Oper.semAt_some
theorem calls_marksQ {f : FuncId} {fn : Func} {c : Code} {args : Array Value} {w : World} {R : Ending → World → Prop} (hf : Try.prog.funcs[f]? = some fn) (hb : fn.body = some c)
    (h : c.wp Try.prog (bodyPostM Fence.wide 9 Try.prog fn R) { tmps := args ++ Array.replicate (fn.ntmps - args.size) undef, defers := [] } w) : Calls Try.prog f args w R :=
  (callsIn_wide (n := 9)).1 (callsIn_of_wp_marks hf hb trivial (wpIn_wide.2 h) rfl)
theorem retM1Q {fn : Func} {R : Ending → World → Prop} {a : Act} {w : World} {v : Value} {D : Nat} (hd : a.defers = [{ target := .collected D, args := #[] }]) (hK : w.heap[D]? = some (.deferred (some [])))
    (hr : (results fn a.tmps).run Try.prog (w.putObj D (.deferred none)) = .ok v (w.putObj D (.deferred none))) (hR : R (.returned v) (w.putObj D (.deferred none))) : bodyPostM Fence.wide 9 Try.prog fn R .ret a w := by
  show LeavesInM Fence.wide 9 Try.prog fn a.tmps R a.defers .returning w
  rw [hd]
  exact ⟨by simp, .inl ⟨_, _, rfl, run_takeDeferred hK, v, hr, hR⟩⟩
theorem grown_of_extQ {w w' : World} (h : Ext w w') : w.grownBy w' none := ⟨h.os, h.tape, h.output, h.size, fun k hk _ => h.block k hk⟩
theorem mod_cellQ {G : Nat → Prop} {w w' : World} (k : Mod G w w') {g i : Nat} {v : Value} (hg : ¬ G g) (h : w.cell? ⟨g, i, none⟩ = some v) : w'.cell? ⟨g, i, none⟩ = some v :=
  (World.cell?_of_block (a := ⟨g, i, none⟩) (k.block g (World.block_lt_of_cell? w _ h) hg)).trans h
theorem mod_putQ {G : Nat → Prop} {w W : World} (l : Nat) (o o' : Obj) (hG : ∀ k, w.heap.size ≤ k → G k) (hl : w.heap.size ≤ l) (_ : W.heap[l]? = some o) : Mod G W (W.putObj l o') :=
  (Mod.refl G W).grown (grownBy_putObj' W l o') (fun k e => by cases e; exact .inl (hG l hl))
theorem ext_putQ {w W : World} {D : Nat} (h : Ext w W) (hD : w.heap.size ≤ D) (hK : W.heap[D]? = some (.deferred (some []))) : Ext w (W.putObj D (.deferred none)) :=
  Below.trans h (belowK_b (w := w) (Nat.le_refl _) W D _ _ hD hK rfl rfl)
theorem row_setQ {w : World} {g t : Nat} {fr : Nat × Nat} {cs cs' : Array Value} (i : Nat) (h : w.heap[g]? = some (.cells cs t fr)) (x : Value) (e : cs.setIfInBounds i x = cs') : (w.setCell ⟨g, i, none⟩ x).heap[g]? = some (.cells cs' t fr) := by
  subst e
  rw [setCell_eq_setRow w g i cs t fr x h]
  exact setRow_heap w g _ _ _ _ h
def encQ (k : Nat) : Array Value := #[.int .i64 (k : Int)]
theorem below_of (s n : Int) (w : World) :
    Calls Try.prog 46 #[.int .u8 s, .int .i64 n] w fun e w' => e = .returned (.func (.func 49) #[] #[.pointer (some ⟨w.heap.size + 1, 0, none⟩), .pointer (some ⟨w.heap.size, 0, none⟩)]) ∧ w' = (w.alloc (.cells #[.int .u8 s] 49)).alloc (.cells #[.int .i64 n] 3) := by
  go_enter Try.func46, Try.ntmps46
  go_wp2
  go_ret
  exact ⟨rfl, rfl⟩
theorem memQ_grow (s j : Nat) : ∀ q : Nat, (memQ s j).length ≤ (memQ s (j + q)).length
  | 0 => Nat.le_refl _
  | q + 1 => by
    refine Nat.le_trans (memQ_grow s j q) ?_
    rw [show j + (q + 1) = (j + q) + 1 by omega, memQ_succ]
    split <;> simp
theorem memQ_in {s j n : Nat} (h : j < n) (hb : s.testBit j = true) : (memQ s j).length < (memQ s n).length := by
  have h1 := memQ_grow s (j + 1) (n - (j + 1))
  rw [show j + 1 + (n - (j + 1)) = n by omega, memQ_succ, if_pos hb, List.length_append, List.length_singleton] at h1
  omega
set_option maxHeartbeats 1600000 in
theorem below1_in (n0 : Nat) (hn0 : 1 ≤ n0) (l bn bs : Nat) (G : Nat → Prop) (s : Nat) (hs : s < 256) (n : Int) (J Jx : List Nat → World → Prop) (W0 V : World) (hV : Mod G W0 V)
    (hAb : ∀ s W W', J s W → Ext W W' → J s W') (hGf : ¬ G bn ∧ ¬ G bs) (hcn : V.cell? ⟨bn, 0, none⟩ = some (.int .i64 n)) (hcs : V.cell? ⟨bs, 0, none⟩ = some (.int .u8 (s : Int)))
    (hY : ∀ pre x W, J pre W → pre.length < (membersQ s n).length → YieldAt Fence.wide (n0 - 1) Try.prog l (encQ x) W fun e W' =>
      (e = .returned (.bool true) ∧ J (pre ++ [x]) W' ∧ Mod G W W') ∨ (e = .returned (.bool false) ∧ Jx (pre ++ [x]) W')) (h0 : J [] V) :
    CallsIn Fence.wide n0 Try.prog 49 #[.func (.yield l) #[] #[], .pointer (some ⟨bn, 0, none⟩), .pointer (some ⟨bs, 0, none⟩)] V fun e W' => (∃ v, e = .returned v) ∧
      ((∃ ys : List Nat, ys = membersQ s n ∧ J ys W') ∨ (∃ pre : List Nat, pre.length ≤ (membersQ s n).length ∧ Jx pre W')) := by
  have HC := Lib.hid (And.intro hcn hcs)
  have HG := Lib.hid hGf
  have HV := Lib.hid hV
  have HY := Lib.hid hY
  have HAB := Lib.hid hAb
  have HM := Lib.hid (most_of n V)
  clear hV hY hGf hAb
  by_cases hm : mostQ n = 0
  · have HE := Lib.hid (show membersQ s n = [] by unfold membersQ; rw [if_pos hm])
    rw [hm] at HM
    clear hm
    refine callsIn_of_wp Try.func49 rfl trivial ?_ rfl
    simp only [Try.ntmps49, List.size_toArray, List.length_cons, List.length_nil, Nat.reduceAdd, Nat.reduceSub, Array.replicate_succ, Array.replicate_zero, List.push_toArray, List.append_toArray, List.nil_append, List.cons_append]
    gi_wp2_with (refine ⟨trivial, ?_⟩; gi_at_call 18; refine (callsIn_wide.2 HM.out).mono ?_; rintro e W3 ⟨rfl, rfl⟩)
    refine bodyPost_ret (results_none rfl _ _ _) rfl ?_
    exact ⟨⟨_, rfl⟩, .inl ⟨_, HE.out.symm, h0⟩⟩
  · have HE := Lib.hid (show membersQ s n = memQ s n.toNat by unfold membersQ; rw [if_neg hm])
    have hn : 0 ≤ n ∧ n ≤ 7 := by rcases mostQ_cases hm with rfl | rfl | rfl <;> omega
    have hmp : ((mostQ n : Int) == 0) = false := by simpa using hm
    generalize mostQ n = mq at *
    clear hm
    obtain ⟨N, rfl⟩ : ∃ N : Nat, n = (N : Int) := ⟨n.toNat, by omega⟩
    rw [Int.toNat_natCast] at HE
    have hN : N ≤ 7 := by omega
    clear hn
    refine callsIn_of_wp Try.func49 rfl trivial ?_ rfl
    simp only [Try.ntmps49, List.size_toArray, List.length_cons, List.length_nil, Nat.reduceAdd, Nat.reduceSub, Array.replicate_succ, Array.replicate_zero, List.push_toArray, List.append_toArray, List.nil_append, List.cons_append]
    gi_wp2_with (refine ⟨trivial, ?_⟩; gi_at_call 18; refine (callsIn_wide.2 HM.out).mono ?_; rintro e W3 ⟨rfl, rfl⟩)
    gi_loopw [9] (fun i wr => ∃ (j : Nat), j ≤ N ∧ i = .int .i64 (j : Int) ∧ Hid (J (memQ s j) wr) ∧ Hid (Mod G V wr)) (fun i _ => 100 - (intOf i).toNat)
    case atStart => exact ⟨0, by omega, rfl, Lib.hid h0, Lib.hid (Mod.refl _ _)⟩
    case round =>
      obtain ⟨j, hj, rfl, HJ, HMo⟩ := hrel
      have k0 : wr.cell? ⟨bn, 0, none⟩ = some (.int .i64 (N : Int)) := mod_cellQ HMo.out HG.out.1 HC.out.1
      have k1 : wr.cell? ⟨bs, 0, none⟩ = some (.int .u8 (s : Int)) := mod_cellQ HMo.out HG.out.2 HC.out.2
      clear hcn hcs
      by_cases hlt : j < N
      · have HH := Lib.hid (has_of s hs (j : Int) wr)
        have e7 : hasQ s (j : Int) = s.testBit j := by unfold hasQ; rw [decide_eq_true (show (0 : Int) ≤ (j : Int) ∧ (j : Int) < 7 by omega)]; rfl
        rw [e7] at HH
        have HS := Lib.hid (memQ_succ s j)
        obtain ⟨b, hb⟩ : ∃ b, s.testBit j = b := ⟨_, rfl⟩
        rw [hb] at HH
        have HB := Lib.hid hb
        clear hb e7
        cases b with
        | true =>
          obtain ⟨fn, tmps, assign, body, hy, hR⟩ := HY.out (memQ s j) j wr HJ.out (by rw [HE.out]; exact memQ_in hlt HB.out)
          have HR := Lib.hid hR
          have hy2 : (Instr.yield l #[.int .i64 (j : Int)]).run Try.prog wr = .ok (.round l fn tmps assign body) wr := hy
          clear hR hy
          gi_wp2_with (refine ⟨trivial, ?_⟩; gi_at_call 34; refine (callsIn_wide.2 HH.out).mono ?_; rintro e W3 ⟨rfl, rfl⟩)
          refine HR.out.mono ?_
          rintro e W4 (⟨rfl, hJ4, hM4⟩ | ⟨rfl, hJ4⟩)
          · have HJ4 := Lib.hid hJ4
            have HM4 : Hid (Mod G V W4) := Lib.hid (HMo.out.trans hM4 fun _ hi => .inl hi)
            clear hJ4 hM4 hy2 k0 k1
            gi_wp2
            go_roundw
            case rel => exact ⟨j + 1, by omega, by go_num, Lib.hid (by rw [HS.out, if_pos HB.out]; exact HJ4.out), HM4⟩
            case measure => simp [intOf]; omega
          · have HJ4 := Lib.hid hJ4
            clear hJ4 hy2 k0 k1
            gi_wp2
            refine bodyPost_ret (results_none rfl _ _ _) rfl ?_
            exact ⟨⟨_, rfl⟩, .inr ⟨_, by rw [HE.out, List.length_append, List.length_singleton]; exact memQ_in hlt HB.out, HJ4.out⟩⟩
        | false =>
          gi_wp2_with (refine ⟨trivial, ?_⟩; gi_at_call 34; refine (callsIn_wide.2 HH.out).mono ?_; rintro e W3 ⟨rfl, rfl⟩)
          refine ⟨fun _ h => (by cases h), ?_⟩
          gi_wp2
          go_roundw
          case rel => exact ⟨j + 1, by omega, by go_num, Lib.hid (by rw [HS.out, if_neg (by rw [HB.out]; simp)]; exact HJ.out), HMo⟩
          case measure => simp [intOf]; omega
      · obtain rfl : j = N := by omega
        gi_wp2
        go_end0
        exact ⟨⟨_, rfl⟩, .inl ⟨_, HE.out.symm, HJ.out⟩⟩
theorem below_stops (n0 : Nat) (hn0 : 1 ≤ n0) (bn bs : Nat) (G : Nat → Prop) (s : Nat) (hs : s < 256) (n : Int) (W0 : World) (hGf : ¬ G bn ∧ ¬ G bs) (hcn : W0.cell? ⟨bn, 0, none⟩ = some (.int .i64 n)) (hcs : W0.cell? ⟨bs, 0, none⟩ = some (.int .u8 (s : Int))) :
    SeqStopsK Fence.wide n0 Try.prog 49 #[.pointer (some ⟨bn, 0, none⟩), .pointer (some ⟨bs, 0, none⟩)] encQ (Mod G) (fun ys => ys = membersQ s n) (fun pre => pre.length ≤ (membersQ s n).length) (membersQ s n).length W0 := fun l J Jx V hV hJ _ hY h0 => by
  have hx : Ext W0 V := hV
  have hmo : Mod G W0 V := Mod.of_ext hx
  exact below1_in n0 hn0 l bn bs G s hs n J Jx W0 V hmo (fun s W W' hs hx => hJ s W W' none hs (grown_of_extQ hx) (fun r e => by cases e)) hGf (mod_cellQ hmo hGf.1 hcn) (mod_cellQ hmo hGf.2 hcs) hY h0
end
section
open Go Go.RowKit Go.Shelf
attribute [local go_sem] Oper.semAt_some
theorem en_ret {b : Nat} {W : World} {a : Act} {D : Nat} {h : Bool} {R : Ending → World → Prop} (h4 : a.tmps.getD 4 undef = .pointer (some ⟨b, 0, none⟩))
    (hd : a.defers = [{ target := .collected D, args := #[] }]) (hK : W.heap[D]? = some (.deferred (some []))) (c1 : W.cell? ⟨b, 0, none⟩ = some (.bool h))
    (hR : R (.returned (.bool h)) (W.putObj D (.deferred none))) : bodyPostM Fence.wide 9 Try.prog Try.f35 R .ret a W := by
  refine retM1Q (v := .bool h) hd hK ?_ hR
  have k1 := cell_kept c1 (grownBy_putObj' _ D (.deferred none)) (fun r e => by cases e; exact ⟨_, hK, rfl⟩)
  have h4' : a.tmps[4]?.getD undef = .pointer (some ⟨b, 0, none⟩) := by simpa using h4
  simp [results, Try.results35, go_sem, h4', k1]
theorem ownF_blockQ {β : Type} (B g : Nat) (cs : β → Array Value) (t : TypeId) : OwnFrom B (fun (s : β) W => W.heap[g]? = some (.cells (cs s) t (0, 0))) := fun s W W' row hs hg hr => by
  refine (hg.block g (Array.getElem?_eq_some_iff.1 hs).1 (fun e => ?_)).trans hs
  obtain ⟨_, o, ho, hoc⟩ := hr g e.symm
  rw [hs] at ho
  injection ho with ho
  subst ho
  cases hoc
theorem heap_setQ {W : World} {D g k : Nat} {o : Obj} {x : Value} (hne : D ≠ g) (h : W.heap[D]? = some o) : (W.setCell ⟨g, k, none⟩ x).heap[D]? = some o :=
  heap_mod h (Mod.setCell (F := fun i => i = g) (Mod.refl (fun i => i = g) W) (p := ⟨g, k, none⟩) (.inl rfl) x) hne
set_option maxHeartbeats 1600000 in
theorem enough_of (s : Nat) (hs : s < 256) (n : Int) (w : World) :
    Calls Try.prog 35 #[.int .u8 (s : Int), .int .i64 n] w fun e w' => e = .returned (.bool (enoughQ s n)) ∧ Ext w w' := by
  have HMo := Lib.hid (fun V => most_of n V)
  obtain ⟨w1, hw1⟩ : ∃ w1, w.alloc (.cells #[.bool false] 4) = w1 := ⟨_, rfl⟩
  have hE1 : Ext w w1 := by rw [← hw1]; exact (Ext.refl w).alloc _
  have hs1 : w1.heap.size = w.heap.size + 1 := by rw [← hw1]; simp
  have r1 : w1.heap[w.heap.size]? = some (.cells #[.bool false] 4 (0, 0)) := by rw [← hw1]; exact heap_alloc_new w _
  have HQ := Lib.hid (show enoughQ s n = decide (0 < mostQ n ∧ mostQ n ≤ (membersQ s n).length) from rfl)
  have hm4 : mostQ n ≤ 4 := by
    unfold mostQ
    split
    · decide
    · split
      · decide
      · split <;> decide
  obtain ⟨m, hm⟩ : ∃ m, mostQ n = m := ⟨_, rfl⟩
  rw [hm] at HMo HQ hm4
  have HM0 := Lib.hid (show m = 0 → (membersQ s n).length = 0 by intro h; unfold membersQ; rw [if_pos (by omega)]; rfl)
  obtain ⟨w2, hw2⟩ : ∃ w2, w1.alloc (.cells #[.int .i64 (m : Int)] 3) = w2 := ⟨_, rfl⟩
  have hE2 : Ext w1 w2 := by rw [← hw2]; exact (Ext.refl w1).alloc _
  have hs2 : w2.heap.size = w1.heap.size + 1 := by rw [← hw2]; simp
  have r2 : w2.heap[w1.heap.size]? = some (.cells #[.int .i64 (m : Int)] 3 (0, 0)) := by rw [← hw2]; exact heap_alloc_new w1 _
  have r1 : w2.heap[w.heap.size]? = some (.cells #[.bool false] 4 (0, 0)) := (hE2.block _ (by omega)).trans r1
  obtain ⟨w3, hw3⟩ : ∃ w3, (w2.alloc (.cells #[.int .u8 (s : Int)] 49)).alloc (.cells #[.int .i64 n] 3) = w3 := ⟨_, rfl⟩
  have hE3 : Ext w2 w3 := by rw [← hw3]; exact ((Ext.refl w2).alloc _).alloc _
  have hs3 : w3.heap.size = w2.heap.size + 2 := by rw [← hw3]; simp
  have r1 := (hE3.block _ (Array.getElem?_eq_some_iff.1 r1).1).trans r1
  have r2 := (hE3.block _ (Array.getElem?_eq_some_iff.1 r2).1).trans r2
  have hst := below_stops 8 (by omega) (w2.heap.size + 1) w2.heap.size (fun i => (i = w.heap.size ∨ i = w1.heap.size) ∨ w3.heap.size ≤ i) s hs n w3 ⟨by omega, by omega⟩ (by rw [← hw3]; simp [go_sem]) (by rw [← hw3]; simp [go_sem])
  have HST := Lib.hid hst
  have HB := Lib.hid (below_of (s : Int) n w2)
  rw [hw3] at HB
  have HE := Lib.hid ((hE1.trans hE2).trans hE3)
  have HSZ := Lib.hid (And.intro hs1 (And.intro hs2 hs3))
  have h38 : w.heap.size ≤ w3.heap.size := by omega
  have hne : w.heap.size ≠ w1.heap.size := by omega
  have HR1 := Lib.hid r1
  have HR2 := Lib.hid r2
  have HW1 := Lib.hid hw1
  have HW2 := Lib.hid hw2
  generalize membersQ s n = M at *
  generalize enoughQ s n = q at *
  clear hst hE1 hE2 hE3 hs1 hs2 hs3 hm r1 r2 hw1 hw2 hw3
  refine calls_marksQ Try.func35 rfl ?_
  simp only [Try.ntmps35, List.size_toArray, List.length_cons, List.length_nil, Nat.reduceAdd, Nat.reduceSub, Array.replicate_succ, Array.replicate_zero, List.push_toArray, List.append_toArray, List.nil_append, List.cons_append]
  go_wp2_with fail
  rw [HW1.out]
  refine (HMo.out _).mono ?_
  rintro e w1' ⟨rfl, rfl⟩
  go_wp2_with fail
  rw [HW2.out]
  refine HB.out.mono ?_
  rintro e w3' ⟨rfl, hw⟩
  have hw := hw.symm
  subst hw
  go_wp2_with fail
  refine (wpIn_wide (n := 9)).1 ?_
  refine wpIn_rangeFunc_ownG (F := Fence.wide) (n := 9) rfl (by omega) (gf := 49) (lb := #[.pointer (some ⟨w2.heap.size + 1, 0, none⟩), .pointer (some ⟨w2.heap.size, 0, none⟩)]) rfl trivial (enters_of Try.func49 (by kernel_rfl) rfl)
    HST.out (fun h k => h.trans k fun _ hi => .inl hi) (fun W l o o' hl ho _ _ => mod_putQ (w := w3) l o o' (fun k hk => .inr hk) hl ho) (Below.refl _ _) (fun _ => rfl)
    (fun pre V => (V.heap[w.heap.size]? = some (.cells #[.bool false] 4 (0, 0)) ∧ V.heap[w1.heap.size]? = some (.cells #[.int .i64 ((m : Int) - (pre.length : Int))] 3 (0, 0))) ∧ (0 < m → pre.length < m) ∧ Below w.heap.size w V)
    (fun c pre V => V.heap[w.heap.size]? = some (.cells #[.bool true] 4 (0, 0)) ∧ (c = .ret ∧ 0 < m ∧ pre.length = m) ∧ Below w.heap.size w V)
    (OwnFrom.and (OwnFrom.and (ownF_blockQ _ _ (fun _ : List Nat => #[.bool false]) _) (ownF_blockQ _ _ (fun pre : List Nat => #[.int .i64 ((m : Int) - (pre.length : Int))]) _)) (OwnFrom.and (fun _ _ _ _ hs _ _ => hs) (ownFrom_below (Nat.le_refl _) h38)))
    (fun c => OwnFrom.and (ownF_blockQ _ _ (fun _ : List Nat => #[.bool true]) _) (OwnFrom.and (fun _ _ _ _ hs _ _ => hs) (ownFrom_below (Nat.le_refl _) h38)))
    ⟨⟨HR1.out, by simpa using HR2.out⟩, fun h => h, HE.out⟩
    (fun x => { tmps := #[.int .u8 (s : Int), .int .i64 n, undef, undef, .pointer (some ⟨w.heap.size, 0, none⟩), .pointer (some ⟨w1.heap.size, 0, none⟩), .int .i64 n, .int .i64 (m : Int), .int .u8 (s : Int), .int .i64 n, .func (.func 49) #[] #[.pointer (some ⟨w2.heap.size + 1, 0, none⟩), .pointer (some ⟨w2.heap.size, 0, none⟩)], .int .i64 (x : Int), undef, undef, undef, undef], defers := [] }) ?assign ?body ?done ?stop
  case assign =>
    intro l x W K hK
    dsimp only [encQ]
    gi_wp2
    simpa using hK
  case body =>
    rintro l pre x V ⟨⟨z1, z2⟩, hlm, hB⟩ hlt
    have hm0 : 0 < m := by
      rcases Nat.eq_zero_or_pos m with h | h
      · have := HM0.out h; omega
      · exact h
    have hlm := hlm hm0
    have hc := cell_of_row V _ 0 _ _ _ z2
    have hf := frozen_of_row V _ 0 _ _ z2
    have hl1 := (Array.getElem?_eq_some_iff.1 z2).1
    have hl0 := (Array.getElem?_eq_some_iff.1 z1).1
    have c0 := cell_of_row V _ 0 _ _ _ z1
    have f0 := frozen_of_row V _ 0 _ _ z1
    have Z1 := Lib.hid z1
    have Z2 := Lib.hid z2
    clear z1 z2
    by_cases he : pre.length + 1 = m
    · have e0 : (m : Int) - (pre.length : Int) - 1 = 0 := by omega
      gi_wp2
      refine ⟨((KeepsOthers.setCell _ _ _).trans (KeepsOthers.setCell _ _ _)).from _, row_setQ 0 (heap_setQ (k := 0) (x := .int .i64 0) hne Z1.out) (.bool true) rfl, ⟨rfl, hm0, by simpa using he⟩, ?_⟩
      exact (hB.setCell (p := ⟨w1.heap.size, 0, none⟩) (by have := HSZ.out.1; show w.heap.size ≤ w1.heap.size; omega) _).setCell (p := ⟨w.heap.size, 0, none⟩) (Nat.le_refl _) _
    · have e0 : ((m : Int) - (pre.length : Int) - 1 == 0) = false := by simp; omega
      gi_wp2
      refine ⟨(KeepsOthers.setCell _ _ _).from _, (Mod.refl _ _).setCell (p := ⟨w1.heap.size, 0, none⟩) (.inl (.inl (.inr rfl))) _, ⟨heap_setQ (k := 0) hne Z1.out, ?_⟩, fun _ => by simp; omega, ?_⟩
      · have e1 : ((m : Int) - ((pre ++ [x]).length : Int)) = (m : Int) - (pre.length : Int) - 1 := by simp; omega
        rw [e1]
        exact row_setQ 0 Z2.out _ rfl
      · exact hB.setCell (p := ⟨w1.heap.size, 0, none⟩) (by have := HSZ.out.1; show w.heap.size ≤ w1.heap.size; omega) _
  case done =>
    rintro D ys V hD hys ⟨⟨z1, z2⟩, hlm, hB⟩ hK
    have hq : q = false := by
      rw [HQ.out, decide_eq_false_iff_not]
      rintro ⟨h1, h2⟩
      have := hlm h1
      rw [hys] at this
      omega
    have hc := cell_of_row V _ 0 _ _ _ z1
    have hf := frozen_of_row V _ 0 _ _ z1
    have hl1 := (Array.getElem?_eq_some_iff.1 z1).1
    have HK := Lib.hid hK
    have HBB := Lib.hid hB
    have HZ := Lib.hid z1
    subst hq
    clear hys hlm hB hK z1 z2
    go_wp2_with fail
    have hDw : D ≠ w.heap.size := by
      have := HSZ.out
      omega
    refine en_ret rfl rfl (heap_setQ (k := 0) (x := .bool false) hDw HK.out) (cell_of_row _ _ 0 _ _ _ (row_setQ 0 HZ.out (.bool false) rfl)) ?_
    exact ⟨rfl, ext_putQ (HBB.out.setCell (p := ⟨w.heap.size, 0, none⟩) (Nat.le_refl _) _) (Nat.le_trans h38 hD) (heap_setQ (k := 0) (x := .bool false) hDw HK.out)⟩
  case stop =>
    rintro D c pre V hD hpre ⟨z1, ⟨rfl, hm0, hpm⟩, hB⟩ hK
    have hq : q = true := by
      rw [HQ.out, decide_eq_true_iff]
      exact ⟨hm0, by omega⟩
    subst hq
    gi_wp2
    refine en_ret rfl rfl hK (cell_of_row _ _ 0 _ _ _ z1) ?_
    exact ⟨rfl, ext_putQ hB (Nat.le_trans h38 hD) hK⟩
end
end Go.Proofs.Ytinflpheogglhaa
