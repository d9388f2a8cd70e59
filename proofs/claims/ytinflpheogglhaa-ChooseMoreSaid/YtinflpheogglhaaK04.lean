/-
  The contracts of the document's many and greatest.
-/
import Derived.Test.YtinflpheogglhaaK00
import Derived.Test.YtinflpheogglhaaK03
namespace Go.Proofs.Ytinflpheogglhaa
set_option maxRecDepth 100000
section
open Go Go.RowKit
set_option maxHeartbeats 800000 in
theorem rmany_of (s : Nat) (A : Option Addr) (n c : Nat) (l : List Rpt) (w : World) (h : Ls rptC 11 w w.heap.size A n c l) :
    Calls Try.prog 26 #[.slice A n c, .int .u8 (s : Int)] w fun e w' => e = .returned (.int .i64 (l.countP (fun r => decide (r.st = s)) : Nat)) ∧ Ext w w' := by
  have hcap := h.cap
  have hmost := h.most
  have H := Lib.hid h
  have HLN := Lib.hid h.len
  clear h
  go_enter Try.func26, Try.ntmps26
  go_wp2_with fail
  go_loopw [5, 6] (fun m i wr => ∃ j : Nat, j ≤ n ∧ i = .int .i64 (j : Int) ∧ m = .int .i64 ((l.take j).countP (fun r => decide (r.st = s)) : Nat) ∧ Hid (Ext w wr)) (fun _ i _ => n - (intOf i).toNat)
  case atStart => exact ⟨0, Nat.zero_le _, rfl, rfl, Lib.hid (Ext.refl _)⟩
  case round =>
    obtain ⟨j, hj, rfl, rfl, HX⟩ := hrel
    have hle : (l.take j).countP (fun r => decide (r.st = s)) ≤ j := Nat.le_trans List.countP_le_length (by rw [List.length_take]; omega)
    by_cases hlt : j < n
    · obtain ⟨g, o, r, rfl, _, hb, hrc⟩ := Ls.rpt (H.out.below HX.out) hlt
      have HTK := Lib.hid (take_oneR hb)
      have c1 := hrc.2.1
      obtain ⟨m, hm⟩ : ∃ m, (l.take j).countP (fun r => decide (r.st = s)) = m := ⟨_, rfl⟩
      rw [hm] at hle ⊢
      have HM := Lib.hid hm
      clear hb hrc hm
      by_cases hs : r.st = s
      · have e : ((r.st : Int) == (s : Int)) = true := by rw [hs]; simp
        have HS := Lib.hid hs
        clear hs
        go_wp2_with fail
        go_roundw
        case rel =>
          refine ⟨j + 1, by omega, by go_num, ?_, HX⟩
          rw [HTK.out, List.countP_append, HM.out, List.countP_cons, List.countP_nil, decide_eq_true HS.out]
          go_num
        case measure => simp [intOf]; omega
      · have e : ((r.st : Int) == (s : Int)) = false := by rw [← Bool.not_eq_true, beq_iff_eq]; omega
        have HS := Lib.hid hs
        clear hs
        go_wp2_with fail
        go_roundw
        case rel =>
          refine ⟨j + 1, by omega, by go_num, ?_, HX⟩
          rw [HTK.out, List.countP_append, HM.out, List.countP_cons, List.countP_nil, decide_eq_false HS.out]
          simp
        case measure => simp [intOf]; omega
    · obtain rfl : j = n := by omega
      have e : l.take j = l := List.take_of_length_le (by rw [HLN.out]; exact Nat.le_refl _)
      rw [e] at hle ⊢
      clear e
      go_wp2_with fail
      go_ret
      exact ⟨rfl, HX.out⟩
def BestAt (l : List Rpt) (o : Option Rpt) (z : Int) : Prop := (z = -1 ∧ o = none) ∨ ∃ (k : Nat) (q : Rpt), z = (k : Nat) ∧ l[k]? = some q ∧ o = some q
theorem keep5C {w w' : World} {g a1 a2 a3 a4 a5 : Nat} {v1 v2 v3 v4 v5 : Value} (hx : Ext w w') (h : Hid (w.cell? ⟨g, a1, none⟩ = some v1 ∧ w.cell? ⟨g, a2, none⟩ = some v2 ∧ w.cell? ⟨g, a3, none⟩ = some v3 ∧ w.cell? ⟨g, a4, none⟩ = some v4 ∧ w.cell? ⟨g, a5, none⟩ = some v5)) : w'.cell? ⟨g, a1, none⟩ = some v1 ∧ w'.cell? ⟨g, a2, none⟩ = some v2 ∧ w'.cell? ⟨g, a3, none⟩ = some v3 ∧ w'.cell? ⟨g, a4, none⟩ = some v4 ∧ w'.cell? ⟨g, a5, none⟩ = some v5 :=
  ⟨ext_of_cellB hx h.out.1, ext_of_cellB hx h.out.2.1, ext_of_cellB hx h.out.2.2.1, ext_of_cellB hx h.out.2.2.2.1, ext_of_cellB hx h.out.2.2.2.2⟩
set_option maxHeartbeats 1600000 in
theorem rgreat_of (A : Option Addr) (n c : Nat) (l : List Rpt) (w : World) (h : Ls rptC 11 w w.heap.size A n c l) :
    Calls Try.prog 27 #[.slice A n c] w fun e w' => ∃ z, e = .returned (.int .i64 z) ∧ BestAt l (bestR l) z ∧ Ext w w' := by
  have hcap := h.cap
  have hmost := h.most
  have H := Lib.hid h
  have HLN := Lib.hid h.len
  clear h
  go_enter Try.func27, Try.ntmps27
  go_wp2_with fail
  go_loopw [3, 4] (fun m i wr => ∃ (j : Nat) (z : Int), j ≤ n ∧ i = .int .i64 (j : Int) ∧ m = .int .i64 z ∧ Hid (BestAt l (bestR (l.take j)) z) ∧ Hid (Ext w wr)) (fun _ i _ => n - (intOf i).toNat)
  case atStart => exact ⟨0, -1, Nat.zero_le _, rfl, rfl, Lib.hid (.inl ⟨rfl, rfl⟩), Lib.hid (Ext.refl _)⟩
  case round =>
    obtain ⟨j, z, hj, rfl, rfl, HBZ, HX⟩ := hrel
    by_cases hlt : j < n
    · obtain ⟨g, o, r, rfl, _, hb, hrc⟩ := Ls.rpt (H.out.below HX.out) hlt
      obtain ⟨ix, st, rx, ry, e⟩ := r
      have HB := Lib.hid hb
      have HTK := Lib.hid (take_oneR hb)
      obtain ⟨c0, c1, c2, c3, c4, c5, c6, c7, c8, c9, c10⟩ := hrc
      dsimp only at c1 c2 c3
      clear c0 c4 c5 c6 c7 c8 c9 c10 hb
      by_cases hs : st = 2
      · subst hs
        rcases HBZ.out with ⟨rfl, hbn⟩ | ⟨k, q, rfl, hqk, hbs⟩
        · have HN := Lib.hid hbn
          clear hbn
          go_wp2_with fail
          go_region
          clear c1 c2 c3
          have HX := Lib.hid (HX.out.trans (Ext.refl _).drew)
          go_wp2_with fail
          go_roundw
          case rel =>
            refine ⟨j + 1, _, by omega, by go_num, rfl, Lib.hid (.inr ⟨j, _, rfl, HB.out, ?_⟩), HX⟩
            rw [HTK.out, bestR_snoc, HN.out]
            exact upR_none rfl
          case measure => simp [intOf]; omega
        · have hkn : k < n := by have := (List.getElem?_eq_some_iff.1 hqk).1; rw [HLN.out] at this; exact this
          obtain ⟨g1, o1, q1, e1, _, hq1, hrq⟩ := Ls.rpt (H.out.below HX.out) hkn
          injection e1 with e1
          injection e1 with e1 e2
          subst e1 e2
          rw [hqk] at hq1
          injection hq1 with hq1
          subst hq1
          obtain ⟨ix1, st1, qx, qy, eq1⟩ := q
          obtain ⟨_, _, d2, d3, _⟩ := hrq
          dsimp only at d2 d3
          have HN := Lib.hid hbs
          have HK := Lib.hid hqk
          clear hbs hqk
          have hkz : decide ((k : Int) < 0) = false := decide_eq_false (by omega)
          have HLS := Lib.hid (fun V => rless_of qx qy rx ry V)
          obtain ⟨rr, hrr⟩ : ∃ rr, ltB ⟨qx, qy⟩ ⟨rx, ry⟩ = rr := ⟨_, rfl⟩
          rw [hrr] at HLS
          have HRR := Lib.hid hrr
          clear hrr
          have HC := Lib.hid (And.intro c1 (And.intro d2 (And.intro d3 (And.intro c2 c3))))
          cases rr with
          | true =>
            go_wp2_with fail
            go_region_held3 (fun w' => w'.cell? ⟨g, o + j * 11 + 1, none⟩ = some (.int .u8 2) ∧ w'.cell? ⟨g, o + k * 11 + 2, none⟩ = some (.int .i64 qx) ∧ w'.cell? ⟨g, o + k * 11 + 3, none⟩ = some (.int .i64 qy) ∧ w'.cell? ⟨g, o + j * 11 + 2, none⟩ = some (.int .i64 rx) ∧ w'.cell? ⟨g, o + j * 11 + 3, none⟩ = some (.int .i64 ry))
              (first | with_reducible exact ⟨c1, d2, d3, c2, c3⟩ | assumption | go_keep)
              (first | (go_at_call 28; ((with_reducible refine (HLS.out _).mono ?_); rintro e w3 ⟨rfl, hx⟩; have hk := keep5C hx HC)))
            have HX := Lib.hid (HX.out.trans ((Ext.refl _).drew.trans hx))
            clear c1 c2 c3 d2 d3 hx hk HLS HC
            go_wp2_with fail
            go_roundw
            case rel =>
              refine ⟨j + 1, _, by omega, by go_num, rfl, Lib.hid (.inr ⟨j, _, rfl, HB.out, ?_⟩), HX⟩
              rw [HTK.out, bestR_snoc, HN.out, upR_some rfl]
              exact if_pos HRR.out
            case measure => simp [intOf]; omega
          | false =>
            go_wp2_with fail
            go_region_held3 (fun w' => w'.cell? ⟨g, o + j * 11 + 1, none⟩ = some (.int .u8 2) ∧ w'.cell? ⟨g, o + k * 11 + 2, none⟩ = some (.int .i64 qx) ∧ w'.cell? ⟨g, o + k * 11 + 3, none⟩ = some (.int .i64 qy) ∧ w'.cell? ⟨g, o + j * 11 + 2, none⟩ = some (.int .i64 rx) ∧ w'.cell? ⟨g, o + j * 11 + 3, none⟩ = some (.int .i64 ry))
              (first | with_reducible exact ⟨c1, d2, d3, c2, c3⟩ | assumption | go_keep)
              (first | (go_at_call 28; ((with_reducible refine (HLS.out _).mono ?_); rintro e w3 ⟨rfl, hx⟩; have hk := keep5C hx HC)))
            have HX := Lib.hid (HX.out.trans ((Ext.refl _).drew.trans hx))
            clear c1 c2 c3 d2 d3 hx hk HLS HC
            go_wp2_with fail
            go_roundw
            case rel =>
              refine ⟨j + 1, _, by omega, by go_num, rfl, Lib.hid (.inr ⟨k, _, rfl, HK.out, ?_⟩), HX⟩
              rw [HTK.out, bestR_snoc, HN.out, upR_some rfl]
              exact if_neg (by show ¬ ltB ⟨qx, qy⟩ ⟨rx, ry⟩ = true; rw [HRR.out]; decide)
            case measure => simp [intOf]; omega
      · have e2 : ((st : Int) == 2) = false := by rw [st_is2]; exact decide_eq_false hs
        have HS := Lib.hid hs
        clear hs
        go_wp2_with fail
        go_region
        clear c1 c2 c3
        have HX := Lib.hid (HX.out.trans (Ext.refl _).drew)
        go_wp2_with fail
        go_roundw
        case rel =>
          refine ⟨j + 1, _, by omega, by go_num, rfl, Lib.hid ?_, HX⟩
          rw [HTK.out, bestR_snoc, upR_no _ HS.out]
          exact HBZ.out
        case measure => simp [intOf]; omega
    · obtain rfl : j = n := by omega
      have e : l.take j = l := List.take_of_length_le (by rw [HLN.out]; exact Nat.le_refl _)
      rw [e] at HBZ
      clear e
      go_wp2_with fail
      go_ret
      exact ⟨_, rfl, HBZ.out, HX.out⟩
end
section
open Go Go.RowKit
theorem most_crowd {n : Int} (h : mostQ n ≠ 0) : crowdB n = true := crowdB_iff.2 (mostQ_cases h)
theorem most_not {n : Int} (h : mostQ n = 0) : crowdB n = false := by
  rw [← Bool.not_eq_true, crowdB_iff]
  rintro (rfl | rfl | rfl) <;> cases h
theorem most_half {n : Nat} (h : mostQ (n : Int) ≠ 0) : mostQ (n : Int) = n / 2 + 1 ∧ n ≤ 7 := by
  rcases mostQ_cases h with e | e | e
  · obtain rfl : n = 3 := by omega
    exact ⟨rfl, by decide⟩
  · obtain rfl : n = 5 := by omega
    exact ⟨rfl, by decide⟩
  · obtain rfl : n = 7 := by omega
    exact ⟨rfl, by decide⟩
theorem dec_err {n : Int} {l : List Rpt} (h : okR n l = false) : decR n l = (0, {}) ∧ decE n l = 2 := by
  unfold decR decE
  rw [h]
  exact ⟨rfl, rfl⟩
theorem dec_ok {n : Int} {l : List Rpt} (h : okR n l = true) : decR n l = (if waitR l then (0, {}) else valR (bestR l)) ∧ decE n l = 0 := by
  unfold decR decE
  rw [h]
  exact ⟨rfl, rfl⟩
theorem ok_all {n : Nat} {l : List Rpt} (hl : l.length = n) (h : mostQ (n : Int) ≠ 0) : okR (n : Int) l = !l.any fun r => decide (4 < r.st) := by
  rw [Bool.eq_iff_iff, okR_iff, Bool.not_eq_true', List.any_eq_false]
  constructor
  · exact fun h1 r hr => by rw [decide_eq_true_iff]; have := h1.2.2 r hr; omega
  · exact fun h1 => ⟨mostQ_cases h, by rw [hl], fun r hr => by have := h1 r hr; rw [decide_eq_true_iff] at this; omega⟩
set_option maxHeartbeats 800000 in
theorem decide_of (n : Int) (A : Option Addr) (m c : Nat) (l : List Rpt) (w : World) (h : Ls rptC 11 w w.heap.size A m c l) :
    Calls Try.prog 10 #[.int .i64 n, .slice A m c] w fun e w' => e = .returned (.tuple #[.int .u8 ((decR n l).1 : Int), eA (decR n l).2, .int .i64 (decE n l)]) ∧ Ext w w' := by
  obtain ⟨R, hR⟩ : ∃ R, decR n l = R := ⟨_, rfl⟩
  obtain ⟨F, hF⟩ : ∃ F, decE n l = F := ⟨_, rfl⟩
  rw [hR, hF]
  obtain ⟨W0, hW0⟩ : ∃ W0, w.alloc (.cells #[.int .u8 0, .int .i64 0, .int .i64 0, .int .u8 0, .string ⟨#[]⟩, .string ⟨#[]⟩, .string ⟨#[]⟩] 27) = W0 := ⟨_, rfl⟩
  have hE : Ext w W0 := by rw [← hW0]; exact (Ext.refl w).alloc _
  have hr0 : W0.heap[w.heap.size]? = some (.cells #[.int .u8 0, .int .i64 0, .int .i64 0, .int .u8 0, .string ⟨#[]⟩, .string ⟨#[]⟩, .string ⟨#[]⟩] 27 (0, 0)) := by rw [← hW0]; exact heap_alloc_new w _
  have hl0 := (h.below hE).moreB hE.size
  have hlen := h.len
  have hc2 := containsR_of (.inl rfl) cinv_of A m c l W0 hl0
  have HV := Lib.hid (And.intro hE hr0)
  have HW0 := Lib.hid hW0
  have HL := Lib.hid hl0
  clear hW0 h hE hr0 hl0
  go_enter Try.func10, Try.ntmps10
  go_upto_region 1 with (fail)
  rw [HW0.out]
  obtain ⟨b, hb⟩ : ∃ b, w.heap.size = b := ⟨_, rfl⟩
  rw [hb] at HV ⊢
  have HB := Lib.hid hb
  clear hb HW0
  go_wp2_with fail
  refine (most_of n _).mono ?_
  rintro _ w1 ⟨rfl, hw⟩
  subst hw
  by_cases hm0 : mostQ n = 0
  · have HF : Hid (decR n l = (0, {}) ∧ decE n l = 2) := Lib.hid (dec_err (by unfold okR; rw [most_not hm0]; rfl))
    obtain ⟨_, e0, e1, e2, e3, e4, e5, e6⟩ := ent_row HV.out.2
    rw [hm0]
    clear hm0 hc2 hlen
    go_upto_region 99 with (fail)
    change bodyPost _ _ _ _ _ (S7 W0 b {})
    have HV2 : Hid (Ext w (S7 W0 b {}) ∧ (S7 W0 b {}).heap[b]? = some (.cells #[.int .u8 (({} : Ent).k : Int), .int .i64 ({} : Ent).cl, .int .i64 ({} : Ent).sq, .int .u8 (({} : Ent).ok : Int), .string ({} : Ent).key, .string ({} : Ent).old, .string ({} : Ent).val] 27 (0, 0))) := Lib.hid ⟨S7.ext {} HV.out.1 (by rw [HB.out]; exact Nat.le_refl _), S7.row {} HV.out.2⟩
    clear HV
    have HV := HV2
    generalize (S7 W0 b {}) = V7 at *
    clear e0 e1 e2 e3 e4 e5 e6
    go_wp2_with fail
    obtain ⟨⟨d0, d1, d2, d3, d4, d5, d6⟩, _⟩ := ent_row HV.out.2
    refine bodyPost_ret (v := .tuple #[.int .u8 0, eA {}, .int .i64 2]) (by simp [results, Try.results10, go_sem, d0, d1, d2, d3, d4, d5, d6]) rfl ?_
    refine ⟨?_, HV.out.1⟩
    rw [← hR, ← hF, HF.out.1, HF.out.2]
    rfl
  have hmz : ((mostQ n : Int) == 0) = false := by simpa using hm0
  by_cases hmn : (m : Int) = n
  · subst hmn
    have hmost := most_half hm0
    have hm7 := hmost.2
    have hok := ok_all hlen hm0
    obtain ⟨M, hM⟩ : ∃ M, mostQ (m : Int) = M := ⟨_, rfl⟩
    rw [hM] at hmz hmost ⊢
    have hM20 : M ≤ 20 := by have := hmost.1; omega
    have HMO := Lib.hid hmost
    clear hmost
    obtain ⟨bad, hbad⟩ : ∃ bad, l.any (fun r => decide (4 < r.st)) = bad := ⟨_, rfl⟩
    rw [hbad] at hok hc2
    have HC2 := Lib.hid hc2
    clear hc2 hm0 hM hbad
    go_wp2_with fail
    refine HC2.out.mono ?_
    rintro _ w1 ⟨rfl, hx⟩
    have HV1 := Lib.hid (And.intro (HV.out.1.trans hx) (keep_rowB hx HV.out.2))
    have HL1 := Lib.hid ((HL.out.below hx).moreB hx.size)
    clear HV HL hx
    have HV := HV1
    have HL := HL1
    clear HV1 HL1 HC2
    cases bad with
    | true =>
      have HF : Hid (decR (m : Int) l = (0, {}) ∧ decE (m : Int) l = 2) := Lib.hid (dec_err hok)
      clear hok
      obtain ⟨_, e0, e1, e2, e3, e4, e5, e6⟩ := ent_row HV.out.2
      go_upto_region 99 with (fail)
      change bodyPost _ _ _ _ _ (S7 w1 b {})
      have HV2 : Hid (Ext w (S7 w1 b {}) ∧ (S7 w1 b {}).heap[b]? = some (.cells #[.int .u8 (({} : Ent).k : Int), .int .i64 ({} : Ent).cl, .int .i64 ({} : Ent).sq, .int .u8 (({} : Ent).ok : Int), .string ({} : Ent).key, .string ({} : Ent).old, .string ({} : Ent).val] 27 (0, 0))) := Lib.hid ⟨S7.ext {} HV.out.1 (by rw [HB.out]; exact Nat.le_refl _), S7.row {} HV.out.2⟩
      clear HV
      have HV := HV2
      generalize (S7 w1 b {}) = V7 at *
      clear e0 e1 e2 e3 e4 e5 e6
      go_wp2_with fail
      obtain ⟨⟨d0, d1, d2, d3, d4, d5, d6⟩, _⟩ := ent_row HV.out.2
      refine bodyPost_ret (v := .tuple #[.int .u8 0, eA {}, .int .i64 2]) (by simp [results, Try.results10, go_sem, d0, d1, d2, d3, d4, d5, d6]) rfl ?_
      refine ⟨?_, HV.out.1⟩
      rw [← hR, ← hF, HF.out.1, HF.out.2]
      rfl
    | false =>
      have hdk := dec_ok hok
      have hm20 : m ≤ 20 := by omega
      have HD := Lib.hid (descend_of A m c l M w1 HL.out hm20 (by omega))
      have hah := ansR_has M (l.countP unkR) l
      obtain ⟨u, hu⟩ : ∃ u, undR M (l.countP unkR) l = u := ⟨_, rfl⟩
      have hw : waitR l = (u && l.any fun r => decide (r.st = 0)) := by
        unfold waitR
        rw [hlen, ← HMO.out.1, hu]
      rw [hu] at hah
      clear hu
      obtain ⟨Q, hQ⟩ : ∃ Q, ansR M (l.countP unkR) (l.filter hasR) = Q := ⟨_, rfl⟩
      rw [hQ] at hah HD
      obtain ⟨q, E⟩ := Q
      dsimp only at HD
      have HHH := Lib.hid (And.intro hah (And.intro hdk hw))
      have HLEN := Lib.hid (And.intro hlen HMO.out)
      clear hah hdk hw hQ hok hlen HMO
      go_wp2_with fail
      refine HD.out.mono ?_
      rintro _ w2 ⟨rfl, hx⟩
      have HV2 := Lib.hid (And.intro (HV.out.1.trans hx) (keep_rowB hx HV.out.2))
      have HL2 := Lib.hid ((HL.out.below hx).moreB hx.size)
      clear HV HL hx HD
      go_upto_region 5 with (fail)
      have hg4 := heap_alloc_new w2 (.cells #[.int .u8 (E.k : Int), .int .i64 E.cl, .int .i64 E.sq, .int .u8 (E.ok : Int), .string E.key, .string E.old, .string E.val] 27)
      have hx4 := (Ext.refl w2).alloc (.cells #[.int .u8 (E.k : Int), .int .i64 E.cl, .int .i64 E.sq, .int .u8 (E.ok : Int), .string E.key, .string E.old, .string E.val] 27)
      have hlt4 : b < w2.heap.size := (Array.getElem?_eq_some_iff.1 HV2.out.2).1
      generalize (w2.alloc (.cells #[.int .u8 (E.k : Int), .int .i64 E.cl, .int .i64 E.sq, .int .u8 (E.ok : Int), .string E.key, .string E.old, .string E.val] 27)) = V at *
      have HV := Lib.hid (And.intro (HV2.out.1.trans hx4) (And.intro (keep_rowB hx4 HV2.out.2) hg4))
      have HL := Lib.hid ((HL2.out.below hx4).moreB hx4.size)
      generalize w2.heap.size = gb at *
      have HGB : Hid (b < gb) := Lib.hid hlt4
      clear hg4 hx4 HV2 HL2 hlt4
      by_cases hq : q = 0
      · subst hq
        cases u with
        | false => exact absurd (congrArg Prod.fst HHH.out.1).symm (valR_pos _)
        | true =>
          have hE0 : E = {} := congrArg Prod.snd HHH.out.1
          subst hE0
          obtain ⟨z, hz⟩ : ∃ z, l.any (fun r => decide (r.st = 0)) = z := ⟨_, rfl⟩
          have HC3 := Lib.hid (containsR_of (.inr rfl) cnone_of A m c l V HL.out)
          have HD2 := Lib.hid (fun V (hL : Ls rptC 11 V V.heap.size A m c l) => descend_of A m c l (m + 1) V hL hm20 (by omega))
          rw [ansR_has, undR_all l (by rw [HLEN.out.1]; omega), if_neg (by decide), show ((m + 1 : Nat) : Int) = (m : Int) + 1 by omega] at HD2
          have hhw := HHH.out.2.2
          rw [hz] at HC3 hhw
          have HHW := Lib.hid hhw
          clear hhw hz
          go_wp2_with fail
          refine HC3.out.mono ?_
          rintro _ w3 ⟨rfl, hx⟩
          have HV3 := Lib.hid (And.intro (HV.out.1.trans hx) (And.intro (keep_rowB hx HV.out.2.1) (keep_rowB hx HV.out.2.2)))
          have HL3 := Lib.hid ((HL.out.below hx).moreB hx.size)
          clear HV HL hx HC3
          cases z with
          | true =>
            have HV := HV3
            obtain ⟨V, hV⟩ : ∃ V, V = w3 := ⟨_, rfl⟩
            subst hV
            obtain ⟨⟨d0, d1, d2, d3, d4, d5, d6⟩, e0, e1, e2, e3, e4, e5, e6⟩ := ent_row HV.out.2.1
            obtain ⟨⟨f0, f1, f2, f3, f4, f5, f6⟩, _⟩ := ent_row HV.out.2.2
            go_wp2_with fail
            go_region
            change Exit.then _ _ _ _ ((S7 V b ({} : Ent)).drew)
            have hrw := keep_rowB ((Ext.refl (S7 V b ({} : Ent))).drew) (S7.row {} HV.out.2.1)
            have hxw : Ext w ((S7 V b ({} : Ent)).drew) := (S7.ext {} HV.out.1 (by rw [HB.out]; exact Nat.le_refl _)).drew
            generalize (S7 V b ({} : Ent)).drew = V9 at hrw hxw ⊢
            clear d0 d1 d2 d3 d4 d5 d6 e0 e1 e2 e3 e4 e5 e6 f0 f1 f2 f3 f4 f5 f6
            have HRW := Lib.hid hrw
            have HXW := Lib.hid hxw
            clear hrw hxw
            go_wp2_with fail
            obtain ⟨⟨d0, d1, d2, d3, d4, d5, d6⟩, _⟩ := ent_row HRW.out
            refine bodyPost_ret (v := .tuple #[.int .u8 0, eA {}, .int .i64 0]) (by simp [results, Try.results10, go_sem, d0, d1, d2, d3, d4, d5, d6]) rfl ?_
            refine ⟨?_, HXW.out⟩
            rw [← hR, ← hF, HHH.out.2.1.1, HHH.out.2.1.2, HHW.out]
            rfl
          | false =>
            obtain ⟨Q2, hQ2⟩ : ∃ Q2, valR (bestR l) = Q2 := ⟨_, rfl⟩
            have hfin : decR (m : Int) l = Q2 ∧ decE (m : Int) l = 0 := by
              rw [HHH.out.2.1.1, HHH.out.2.1.2, HHW.out, hQ2]
              exact ⟨rfl, rfl⟩
            have HFIN := Lib.hid hfin
            have HD3 := Lib.hid (HD2.out w3 HL3.out)
            rw [hQ2] at HD3
            obtain ⟨q2, E2⟩ := Q2
            dsimp only at HD3
            clear HD2 hQ2 hfin
            go_wp2_with fail
            refine HD3.out.mono ?_
            rintro _ w4 ⟨rfl, hx⟩
            have HV4 := Lib.hid (And.intro (HV3.out.1.trans hx) (And.intro (keep_rowB hx HV3.out.2.1) (keep_rowB hx HV3.out.2.2)))
            clear HV3 hx HD3
            obtain ⟨_, e0, e1, e2, e3, e4, e5, e6⟩ := ent_row HV4.out.2.2
            go_upto_region 7 with (fail)
            change Code.wp _ _ _ _ (S7 w4 gb E2)
            have HV : Hid (Ext w (S7 w4 gb E2) ∧ (S7 w4 gb E2).heap[b]? = some (.cells #[.int .u8 0, .int .i64 0, .int .i64 0, .int .u8 0, .string ⟨#[]⟩, .string ⟨#[]⟩, .string ⟨#[]⟩] 27 (0, 0)) ∧ (S7 w4 gb E2).heap[gb]? = some (.cells #[.int .u8 (E2.k : Int), .int .i64 E2.cl, .int .i64 E2.sq, .int .u8 (E2.ok : Int), .string E2.key, .string E2.old, .string E2.val] 27 (0, 0))) :=
              Lib.hid ⟨S7.ext E2 HV4.out.1 (by have h1 := HB.out; have h2 := HGB.out; omega), S7.off E2 (by have h2 := HGB.out; omega) HV4.out.2.1, S7.row E2 HV4.out.2.2⟩
            generalize (S7 w4 gb E2) = V7 at *
            clear e0 e1 e2 e3 e4 e5 e6 HV4
            obtain ⟨V, hV⟩ : ∃ V, V = V7 := ⟨_, rfl⟩
            subst hV
            obtain ⟨⟨d0, d1, d2, d3, d4, d5, d6⟩, e0, e1, e2, e3, e4, e5, e6⟩ := ent_row HV.out.2.1
            obtain ⟨⟨f0, f1, f2, f3, f4, f5, f6⟩, _⟩ := ent_row HV.out.2.2
            go_wp2_with fail
            go_region
            change Exit.then _ _ _ _ ((S7 V b (E2 : Ent)).drew)
            have hrw := keep_rowB ((Ext.refl (S7 V b (E2 : Ent))).drew) (S7.row E2 HV.out.2.1)
            have hxw : Ext w ((S7 V b (E2 : Ent)).drew) := (S7.ext E2 HV.out.1 (by rw [HB.out]; exact Nat.le_refl _)).drew
            generalize (S7 V b (E2 : Ent)).drew = V9 at hrw hxw ⊢
            clear d0 d1 d2 d3 d4 d5 d6 e0 e1 e2 e3 e4 e5 e6 f0 f1 f2 f3 f4 f5 f6
            have HRW := Lib.hid hrw
            have HXW := Lib.hid hxw
            clear hrw hxw
            go_wp2_with fail
            obtain ⟨⟨d0, d1, d2, d3, d4, d5, d6⟩, _⟩ := ent_row HRW.out
            refine bodyPost_ret (v := .tuple #[.int .u8 (q2 : Int), eA E2, .int .i64 0]) (by simp [results, Try.results10, go_sem, d0, d1, d2, d3, d4, d5, d6]) rfl ?_
            refine ⟨?_, HXW.out⟩
            rw [← hR, ← hF, HFIN.out.1, HFIN.out.2]
      · have hqz : ((q : Int) == 0) = false := by rw [st_is0]; exact decide_eq_false hq
        have hfin : decR (m : Int) l = (q, E) ∧ decE (m : Int) l = 0 := by
          have h1 := HHH.out.1
          rw [HHH.out.2.1.1, HHH.out.2.1.2, HHH.out.2.2]
          cases u with
          | true => exact absurd (congrArg Prod.fst h1) hq
          | false => exact ⟨h1.symm, rfl⟩
        have HFIN := Lib.hid hfin
        clear hfin hq
        obtain ⟨⟨d0, d1, d2, d3, d4, d5, d6⟩, e0, e1, e2, e3, e4, e5, e6⟩ := ent_row HV.out.2.1
        obtain ⟨⟨f0, f1, f2, f3, f4, f5, f6⟩, _⟩ := ent_row HV.out.2.2
        go_wp2_with fail
        go_region
        change Exit.then _ _ _ _ ((S7 V b (E : Ent)).drew)
        have hrw := keep_rowB ((Ext.refl (S7 V b (E : Ent))).drew) (S7.row E HV.out.2.1)
        have hxw : Ext w ((S7 V b (E : Ent)).drew) := (S7.ext E HV.out.1 (by rw [HB.out]; exact Nat.le_refl _)).drew
        generalize (S7 V b (E : Ent)).drew = V9 at hrw hxw ⊢
        clear d0 d1 d2 d3 d4 d5 d6 e0 e1 e2 e3 e4 e5 e6 f0 f1 f2 f3 f4 f5 f6
        have HRW := Lib.hid hrw
        have HXW := Lib.hid hxw
        clear hrw hxw
        go_wp2_with fail
        obtain ⟨⟨d0, d1, d2, d3, d4, d5, d6⟩, _⟩ := ent_row HRW.out
        refine bodyPost_ret (v := .tuple #[.int .u8 (q : Int), eA E, .int .i64 0]) (by simp [results, Try.results10, go_sem, d0, d1, d2, d3, d4, d5, d6]) rfl ?_
        refine ⟨?_, HXW.out⟩
        rw [← hR, ← hF, HFIN.out.1, HFIN.out.2]
  · have HF : Hid (decR n l = (0, {}) ∧ decE n l = 2) := Lib.hid (dec_err (by unfold okR; rw [hlen, decide_eq_false hmn, Bool.and_false, Bool.false_and]))
    have hne : ((m : Int) != n) = true := by simpa using hmn
    obtain ⟨M, hM⟩ : ∃ M, mostQ n = M := ⟨_, rfl⟩
    rw [hM] at hmz ⊢
    clear hmn hm0 hc2 hlen hM
    obtain ⟨_, e0, e1, e2, e3, e4, e5, e6⟩ := ent_row HV.out.2
    go_upto_region 99 with (fail)
    change bodyPost _ _ _ _ _ (S7 W0 b {})
    have HV2 : Hid (Ext w (S7 W0 b {}) ∧ (S7 W0 b {}).heap[b]? = some (.cells #[.int .u8 (({} : Ent).k : Int), .int .i64 ({} : Ent).cl, .int .i64 ({} : Ent).sq, .int .u8 (({} : Ent).ok : Int), .string ({} : Ent).key, .string ({} : Ent).old, .string ({} : Ent).val] 27 (0, 0))) := Lib.hid ⟨S7.ext {} HV.out.1 (by rw [HB.out]; exact Nat.le_refl _), S7.row {} HV.out.2⟩
    clear HV
    have HV := HV2
    generalize (S7 W0 b {}) = V7 at *
    clear e0 e1 e2 e3 e4 e5 e6
    go_wp2_with fail
    obtain ⟨⟨d0, d1, d2, d3, d4, d5, d6⟩, _⟩ := ent_row HV.out.2
    refine bodyPost_ret (v := .tuple #[.int .u8 0, eA {}, .int .i64 2]) (by simp [results, Try.results10, go_sem, d0, d1, d2, d3, d4, d5, d6]) rfl ?_
    refine ⟨?_, HV.out.1⟩
    rw [← hR, ← hF, HF.out.1, HF.out.2]
    rfl
end
end Go.Proofs.Ytinflpheogglhaa
