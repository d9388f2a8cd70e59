/-
  The walk of ChooseGreatest: the first entry of the greatest ballot is the value.
-/
import Derived.Test.YtinflpheogglhaaK00
import Derived.Test.YtinflpheogglhaaK01
import Derived.Test.YtinflpheogglhaaK05
import Derived.Test.YtinflpheogglhaaK06
import Derived.Test.YtinflpheogglhaaK07
namespace Go.Proofs.Ytinflpheogglhaa
open Go Go.RowKit
set_option maxRecDepth 100000 in
set_option maxHeartbeats 1600000 in
theorem chooseGreatest_law (n : Int) (A : Option Addr) (m c : Nat) (l : List Rpt) (w : World) (_hn : (Lit.int .i64 n).wf = true) (hl : Ls rptC 11 w w.heap.size A m c l ∧ ∀ a ∈ l, a.Wf) :
    Calls Try.prog 6 #[.int .i64 n, .slice A m c] w fun e w' => e = .returned (.bool true) ∧ Below w.heap.size w w' := by
  show Calls Try.prog 6 #[.int .i64 n, .slice A m c] w fun e w' => e = .returned (.bool true) ∧ Ext w w'
  obtain ⟨h, _⟩ := hl
  have hcap := h.cap
  have hmost := h.most
  have H := Lib.hid h
  have HLN := Lib.hid h.len
  clear h
  go_enter Try.func6, Try.ntmps6
  go_wp2_with fail
  refine (chawake_of _).mono ?_
  rintro _ w1 ⟨rfl, hx1⟩
  have H1 := Lib.hid ((H.out.below hx1).moreB hx1.size)
  have HX1 := Lib.hid hx1
  clear hx1
  go_wp2_with fail
  refine (chmay_of n A m c l _ H1.out).mono ?_
  rintro _ w4 ⟨rfl, hw⟩
  subst hw
  cases hok : okR n l with
  | false =>
    go_wp2_with fail
    go_ret
    exact ⟨rfl, HX1.out⟩
  | true =>
    obtain ⟨hn3, hlen, hst⟩ := okR_iff.1 hok
    rw [HLN.out] at hlen
    obtain rfl := hlen
    have HOK := Lib.hid hok
    have hm7 : m ≤ 7 := by omega
    have HMM : Hid (mostQ (m : Int) = m / 2 + 1) := Lib.hid (most_half (by
      rcases hn3 with e | e | e
      · rw [e]; decide
      · rw [e]; decide
      · rw [e]; decide)).1
    clear hok hn3 hst
    go_wp2_with fail
    go_loopw [5, 6, 7] (fun nv bv iv wr => ∃ (j kn : Nat) (z : Int), j ≤ m ∧ iv = .int .i64 (j : Int) ∧ nv = .int .i64 (kn : Int) ∧ bv = .int .i64 z ∧ Hid ((l.take j).countP (fun r : Rpt => decide (r.st ≠ 0 ∧ r.st ≠ 4)) = kn ∧ BestAt l (bestR (l.take j)) z) ∧ Hid (Ext w1 wr)) (fun _ _ iv _ => m - (intOf iv).toNat)
    case atStart => exact ⟨0, 0, -1, Nat.zero_le _, rfl, rfl, rfl, Lib.hid ⟨rfl, .inl ⟨rfl, rfl⟩⟩, Lib.hid (Ext.refl _)⟩
    case round =>
      obtain ⟨j, kn, z, hj, rfl, rfl, rfl, HCN, HX⟩ := hrel
      have hkn : kn ≤ 7 := by rw [← HCN.out.1]; exact Nat.le_trans List.countP_le_length (by rw [List.length_take]; omega)
      by_cases hlt : j < m
      · obtain ⟨g, o, r, rfl, _, hb, hrc⟩ := Ls.rpt (H1.out.below HX.out) hlt
        obtain ⟨ix, st, rx, ry, e⟩ := r
        have HB := Lib.hid hb
        have HTK := Lib.hid (take_oneR hb)
        obtain ⟨c0, c1, c2, c3, c4, c5, c6, c7, c8, c9, c10⟩ := hrc
        dsimp only at c1 c2 c3
        clear c0 c4 c5 c6 c7 c8 c9 c10 hb
        by_cases h0 : st = 0
        · have hs := h0
          clear h0
          subst hs
          go_wp2_with fail
          go_region
          clear c1 c2 c3
          have HX2 := Lib.hid (HX.out.trans (Ext.refl _).drew)
          go_wp2_with fail
          go_roundw
          case rel =>
            refine ⟨j + 1, _, _, by omega, by go_num, rfl, rfl, Lib.hid ⟨?_, ?_⟩, HX2⟩
            · rw [HTK.out, List.countP_append, HCN.out.1, List.countP_cons, List.countP_nil]
              rfl
            · rw [HTK.out, bestR_snoc]
              rw [upR_no _ (show (⟨ix, 0, rx, ry, e⟩ : Rpt).st ≠ 2 from fun h => by cases h)]
              exact HCN.out.2
          case measure => simp [intOf]; omega
        by_cases h4 : st = 4
        · have hs := h4
          clear h4 h0
          subst hs
          go_wp2_with fail
          go_region
          clear c1 c2 c3
          have HX2 := Lib.hid (HX.out.trans (Ext.refl _).drew)
          go_wp2_with fail
          go_roundw
          case rel =>
            refine ⟨j + 1, _, _, by omega, by go_num, rfl, rfl, Lib.hid ⟨?_, ?_⟩, HX2⟩
            · rw [HTK.out, List.countP_append, HCN.out.1, List.countP_cons, List.countP_nil]
              rfl
            · rw [HTK.out, bestR_snoc]
              rw [upR_no _ (show (⟨ix, 4, rx, ry, e⟩ : Rpt).st ≠ 2 from fun h => by cases h)]
              exact HCN.out.2
          case measure => simp [intOf]; omega
        by_cases h2 : st = 2
        · have hs := h2
          clear h2 h4 h0
          subst hs
          rcases HCN.out.2 with ⟨rfl, hbn⟩ | ⟨k, q, rfl, hqk, hbs⟩
          · have HN := Lib.hid hbn
            clear hbn
            go_wp2_with fail
            go_region
            clear c1 c2 c3
            have HX2 := Lib.hid (HX.out.trans (Ext.refl _).drew)
            go_wp2_with fail
            go_roundw
            case rel =>
              refine ⟨j + 1, _, _, by omega, by go_num, rfl, rfl, Lib.hid ⟨?_, ?_⟩, HX2⟩
              · rw [HTK.out, List.countP_append, HCN.out.1, List.countP_cons, List.countP_nil]
                rfl
              · rw [HTK.out, bestR_snoc]
                rw [HN.out]
                exact .inr ⟨j, _, rfl, HB.out, upR_none rfl⟩
            case measure => simp [intOf]; omega
          · have hkn : k < m := by have := (List.getElem?_eq_some_iff.1 hqk).1; rw [HLN.out] at this; exact this
            have hrq := RCat (H1.out.below HX.out) hqk
            obtain ⟨ix1, st1, qx, qy, eq1⟩ := q
            obtain ⟨_, _, d2, d3, _⟩ := hrq
            dsimp only at d2 d3
            have HN := Lib.hid hbs
            have HK := Lib.hid hqk
            clear hbs hqk
            have hkz : decide ((k : Int) < 0) = false := decide_eq_false (by omega)
            have HLS := Lib.hid (fun V => less_of qx qy rx ry V)
            obtain ⟨rr, hrr⟩ : ∃ rr, ltB ⟨qx, qy⟩ ⟨rx, ry⟩ = rr := ⟨_, rfl⟩
            rw [hrr] at HLS
            have HRR := Lib.hid hrr
            clear hrr
            have HC := Lib.hid (And.intro c1 (And.intro d2 (And.intro d3 (And.intro c2 c3))))
            cases rr with
            | true =>
              go_wp2_with fail
              go_region_held3 (fun w' => w'.cell? ⟨g, o + j * 11 + 1, none⟩ = some (.int .u8 2) ∧ w'.cell? ⟨g, o + k * 11 + 2, none⟩ = some (.int .i64 qx) ∧ w'.cell? ⟨g, o + k * 11 + 3, none⟩ = some (.int .i64 qy) ∧ w'.cell? ⟨g, o + j * 11 + 2, none⟩ = some (.int .i64 rx) ∧ w'.cell? ⟨g, o + j * 11 + 3, none⟩ = some (.int .i64 ry))
                (first | with_reducible exact ⟨c1, d2, d3, c2, c3⟩ | assumption | go_keep)
                (first | (go_at_call 19; ((with_reducible refine (HLS.out _).mono ?_); rintro e w3 ⟨rfl, hx⟩; have hk5 := keep5C hx HC)))
              have HX2 := Lib.hid (HX.out.trans ((Ext.refl _).drew.trans hx))
              clear c1 c2 c3 d2 d3 hx hk5 HLS HC
              go_wp2_with fail
              go_roundw
              case rel =>
                refine ⟨j + 1, _, _, by omega, by go_num, rfl, rfl, Lib.hid ⟨?_, ?_⟩, HX2⟩
                · rw [HTK.out, List.countP_append, HCN.out.1, List.countP_cons, List.countP_nil]
                  rfl
                · rw [HTK.out, bestR_snoc]
                  rw [HN.out, upR_some rfl, if_pos (by exact HRR.out)]
                  exact .inr ⟨j, _, rfl, HB.out, rfl⟩
              case measure => simp [intOf]; omega
            | false =>
              go_wp2_with fail
              go_region_held3 (fun w' => w'.cell? ⟨g, o + j * 11 + 1, none⟩ = some (.int .u8 2) ∧ w'.cell? ⟨g, o + k * 11 + 2, none⟩ = some (.int .i64 qx) ∧ w'.cell? ⟨g, o + k * 11 + 3, none⟩ = some (.int .i64 qy) ∧ w'.cell? ⟨g, o + j * 11 + 2, none⟩ = some (.int .i64 rx) ∧ w'.cell? ⟨g, o + j * 11 + 3, none⟩ = some (.int .i64 ry))
                (first | with_reducible exact ⟨c1, d2, d3, c2, c3⟩ | assumption | go_keep)
                (first | (go_at_call 19; ((with_reducible refine (HLS.out _).mono ?_); rintro e w3 ⟨rfl, hx⟩; have hk5 := keep5C hx HC)))
              have HX2 := Lib.hid (HX.out.trans ((Ext.refl _).drew.trans hx))
              clear c1 c2 c3 d2 d3 hx hk5 HLS HC
              go_wp2_with fail
              go_roundw
              case rel =>
                refine ⟨j + 1, _, _, by omega, by go_num, rfl, rfl, Lib.hid ⟨?_, ?_⟩, HX2⟩
                · rw [HTK.out, List.countP_append, HCN.out.1, List.countP_cons, List.countP_nil]
                  rfl
                · rw [HTK.out, bestR_snoc]
                  rw [HN.out, upR_some rfl, if_neg (by show ¬ ltB ⟨qx, qy⟩ ⟨rx, ry⟩ = true; rw [HRR.out]; decide)]
                  exact .inr ⟨k, _, rfl, HK.out, rfl⟩
              case measure => simp [intOf]; omega
        have e0 : ((st : Int) != 0) = true := by rw [bne, st_is0, decide_eq_false h0]; rfl
        have e4 : ((st : Int) != 4) = true := by rw [bne, st_is4, decide_eq_false h4]; rfl
        have e2 : ((st : Int) == 2) = false := by rw [st_is2]; exact decide_eq_false h2
        have HS := Lib.hid (And.intro h2 (show st ≠ 0 ∧ st ≠ 4 from ⟨h0, h4⟩))
        clear h0 h4 h2
        go_wp2_with fail
        go_region
        clear c1 c2 c3
        have HX2 := Lib.hid (HX.out.trans (Ext.refl _).drew)
        go_wp2_with fail
        go_roundw
        case rel =>
          refine ⟨j + 1, _, _, by omega, by go_num, rfl, rfl, Lib.hid ⟨?_, ?_⟩, HX2⟩
          · rw [HTK.out, List.countP_append, HCN.out.1, List.countP_cons, List.countP_nil]
            rw [show decide ((⟨ix, st, rx, ry, e⟩ : Rpt).st ≠ 0 ∧ (⟨ix, st, rx, ry, e⟩ : Rpt).st ≠ 4) = true from decide_eq_true HS.out.2]
            rfl
          · rw [HTK.out, bestR_snoc]
            rw [upR_no _ (show (⟨ix, st, rx, ry, e⟩ : Rpt).st ≠ 2 from HS.out.1)]
            exact HCN.out.2
        case measure => simp [intOf]; omega
      · obtain rfl : j = m := by omega
        have e : l.take j = l := List.take_of_length_le (by rw [HLN.out]; exact Nat.le_refl _)
        rw [e] at HCN
        obtain ⟨m, hm⟩ : ∃ m, m = j := ⟨_, rfl⟩
        subst hm
        obtain ⟨M, hM⟩ : ∃ M, mostQ (m : Int) = M := ⟨_, rfl⟩
        have HMO := Lib.hid (fun V => most_of (m : Int) V)
        rw [hM] at HMO HMM
        have hM7 : M ≤ 7 := by have := HMM.out; omega
        obtain ⟨W1, hW1⟩ : ∃ W1, W1 = wr := ⟨_, rfl⟩
        subst hW1
        have H2 := Lib.hid ((H1.out.below HX.out).moreB HX.out.size)
        have HX2 := Lib.hid (HX1.out.trans HX.out)
        clear e hM H1 HX HX1
        go_wp2_with fail
        refine (HMO.out _).mono ?_
        rintro _ w9 ⟨rfl, hw⟩
        subst hw
        by_cases hge : M ≤ kn
        · have hlt0 : ¬ kn < M := by omega
          rcases HCN.out.2 with ⟨rfl, hbn⟩ | ⟨kq, q, rfl, hqk, hbs⟩
          · go_wp2_with fail
            go_ret
            exact ⟨rfl, HX2.out⟩
          · have hkq : kq < m := by have := (List.getElem?_eq_some_iff.1 hqk).1; rw [HLN.out] at this; exact this
            obtain ⟨qix, qst, qx, qy, qe⟩ := q
            have HN := Lib.hid hbs
            have HK := Lib.hid hqk
            have HGE := Lib.hid hge
            have hkz : decide ((kq : Int) < 0) = false := decide_eq_false (by omega)
            clear hbs hqk hge
            go_wp2_with fail
            go_loopw [8] (fun iv wr => ∃ j : Nat, j ≤ m ∧ iv = .int .i64 (j : Int) ∧ Hid (∀ (i : Nat) (r : Rpt), i < j → l[i]? = some r → r.st = 3 → ltB ⟨qx, qy⟩ r.b = false) ∧ Hid (Ext W1 wr)) (fun iv _ => m - (intOf iv).toNat)
            case atStart => exact ⟨0, Nat.zero_le _, rfl, Lib.hid fun i r hi => absurd hi (Nat.not_lt_zero _), Lib.hid (Ext.refl _)⟩
            case round =>
              obtain ⟨j, hj, rfl, HA, HX⟩ := hrel
              by_cases hlt : j < m
              · obtain ⟨g, o, r, rfl, _, hb, hrc⟩ := Ls.rpt (H2.out.below HX.out) hlt
                obtain ⟨ix, st, rx, ry, e⟩ := r
                have HB := Lib.hid hb
                obtain ⟨_, c1, c2, c3, _⟩ := hrc
                obtain ⟨_, _, d2, d3, _⟩ := RCat (H2.out.below HX.out) HK.out
                dsimp only at c1 c2 c3 d2 d3
                clear hb
                by_cases hs : st = 3
                · subst hs
                  have HLS := Lib.hid (fun V => less_of qx qy rx ry V)
                  obtain ⟨rr, hrr⟩ : ∃ rr, ltB ⟨qx, qy⟩ ⟨rx, ry⟩ = rr := ⟨_, rfl⟩
                  rw [hrr] at HLS
                  have HRR := Lib.hid hrr
                  clear hrr
                  have HC := Lib.hid (And.intro c1 (And.intro d2 (And.intro d3 (And.intro c2 c3))))
                  cases rr with
                  | true =>
                    go_wp2_with fail
                    go_region_held3 (fun w' => w'.cell? ⟨g, o + j * 11 + 1, none⟩ = some (.int .u8 3) ∧ w'.cell? ⟨g, o + kq * 11 + 2, none⟩ = some (.int .i64 qx) ∧ w'.cell? ⟨g, o + kq * 11 + 3, none⟩ = some (.int .i64 qy) ∧ w'.cell? ⟨g, o + j * 11 + 2, none⟩ = some (.int .i64 rx) ∧ w'.cell? ⟨g, o + j * 11 + 3, none⟩ = some (.int .i64 ry))
                      (first | with_reducible exact ⟨c1, d2, d3, c2, c3⟩ | assumption | go_keep)
                      (first | (go_at_call 19; ((with_reducible refine (HLS.out _).mono ?_); rintro e w3 ⟨rfl, hx⟩; have hk5 := keep5C hx HC)))
                    have HX3 := Lib.hid (HX2.out.trans (HX.out.trans ((Ext.refl _).drew.trans hx)))
                    clear c1 c2 c3 d2 d3 hx hk5 HLS HC
                    go_wp2_with fail
                    go_ret
                    exact ⟨rfl, HX3.out⟩
                  | false =>
                    go_wp2_with fail
                    go_region_held3 (fun w' => w'.cell? ⟨g, o + j * 11 + 1, none⟩ = some (.int .u8 3) ∧ w'.cell? ⟨g, o + kq * 11 + 2, none⟩ = some (.int .i64 qx) ∧ w'.cell? ⟨g, o + kq * 11 + 3, none⟩ = some (.int .i64 qy) ∧ w'.cell? ⟨g, o + j * 11 + 2, none⟩ = some (.int .i64 rx) ∧ w'.cell? ⟨g, o + j * 11 + 3, none⟩ = some (.int .i64 ry))
                      (first | with_reducible exact ⟨c1, d2, d3, c2, c3⟩ | assumption | go_keep)
                      (first | (go_at_call 19; ((with_reducible refine (HLS.out _).mono ?_); rintro e w3 ⟨rfl, hx⟩; have hk5 := keep5C hx HC)))
                    have HX3 := Lib.hid (HX.out.trans ((Ext.refl _).drew.trans hx))
                    clear c1 c2 c3 d2 d3 hx hk5 HLS HC
                    go_wp2_with fail
                    go_roundw
                    case rel =>
                      refine ⟨j + 1, by omega, by go_num, Lib.hid fun i r hi hr hs => ?_, HX3⟩
                      by_cases hij : i = j
                      · subst hij
                        rw [HB.out] at hr
                        injection hr with hr
                        rw [← hr]
                        exact HRR.out
                      · exact HA.out i r (by omega) hr hs
                    case measure => simp [intOf]; omega
                · have e3 : ((st : Int) == 3) = false := by rw [st_is3]; exact decide_eq_false hs
                  have HS := Lib.hid hs
                  clear hs
                  go_wp2_with fail
                  go_region
                  clear c1 c2 c3 d2 d3
                  have HX3 := Lib.hid (HX.out.trans (Ext.refl _).drew)
                  go_wp2_with fail
                  go_roundw
                  case rel =>
                    refine ⟨j + 1, by omega, by go_num, Lib.hid fun i r hi hr hs => ?_, HX3⟩
                    by_cases hij : i = j
                    · subst hij
                      rw [HB.out] at hr
                      injection hr with hr
                      rw [← hr] at hs
                      exact absurd hs HS.out
                    · exact HA.out i r (by omega) hr hs
                  case measure => simp [intOf]; omega
              · obtain rfl : j = m := by omega
                obtain ⟨m, hm⟩ : ∃ m, m = j := ⟨_, rfl⟩
                subst hm
                have hdec : decR (m : Int) l = (2, qe) := greatest_is (q := ⟨qix, qst, qx, qy, qe⟩) HOK.out (by rw [HCN.out.1, ← HMM.out]; exact HGE.out) HN.out fun r hr hs => by
                  obtain ⟨i, hi, e⟩ := List.getElem_of_mem hr
                  exact HA.out i r (by rw [← HLN.out]; exact hi) (by rw [← e]; exact List.getElem?_eq_getElem hi) hs
                have hde := (dec_ok HOK.out).2
                have H3 := Lib.hid ((H2.out.below HX.out).moreB HX.out.size)
                have HX3 := Lib.hid (HX2.out.trans HX.out)
                have HDC := Lib.hid (decide_of (m : Int) A m c l wr H3.out)
                rw [hdec, hde] at HDC
                dsimp only at HDC
                clear hdec hde HX HX2 H2
                go_wp2_with fail
                refine HDC.out.mono ?_
                rintro _ w5 ⟨rfl, hx⟩
                have HX5 := Lib.hid (HX3.out.trans hx)
                have H5 := Lib.hid ((H3.out.below hx).moreB hx.size)
                clear hx HDC HX3 H3
                go_upto_region 21 with (fail)
                have hg := heap_alloc_new w5 (.cells #[.int .u8 (qe.k : Int), .int .i64 qe.cl, .int .i64 qe.sq, .int .u8 (qe.ok : Int), .string qe.key, .string qe.old, .string qe.val] 27)
                have hx := (Ext.refl w5).alloc (.cells #[.int .u8 (qe.k : Int), .int .i64 qe.cl, .int .i64 qe.sq, .int .u8 (qe.ok : Int), .string qe.key, .string qe.old, .string qe.val] 27)
                generalize (w5.alloc (.cells #[.int .u8 (qe.k : Int), .int .i64 qe.cl, .int .i64 qe.sq, .int .u8 (qe.ok : Int), .string qe.key, .string qe.old, .string qe.val] 27)) = w6 at *
                have HX6 := Lib.hid (HX5.out.trans hx)
                have H6 := Lib.hid (H5.out.below hx)
                generalize w5.heap.size = b1 at *
                obtain ⟨⟨f0, f1, f2, f3, f4, f5, f6⟩, _⟩ := ent_row hg
                obtain ⟨g, o, r, rfl, _, hb, _⟩ := Ls.rpt H6.out hkq
                obtain ⟨_, _, _, _, c4, c5, c6, c7, c8, c9, c10⟩ := RCat H6.out HK.out
                dsimp only at c4 c5 c6 c7 c8 c9 c10
                have hq := fun V => cent_eql qe qe V
                rw [eqE_self] at hq
                clear hg hx HX5 H5 hb
                go_wp2_with fail
                go_region
                clear c4 c5 c6 c7 c8 c9 c10 f0 f1 f2 f3 f4 f5 f6 hq
                have HX7 := Lib.hid (HX6.out.trans (Ext.refl _).drew)
                go_wp2_with fail
                go_ret
                exact ⟨rfl, HX7.out⟩
        · have hlt0 : kn < M := by omega
          clear hge
          go_wp2_with fail
          go_ret
          exact ⟨rfl, HX2.out⟩
end Go.Proofs.Ytinflpheogglhaa
