/-
  The walk of ChooseGoes: when one need not wait; what is the value was reported; a noop is one.
-/
import Derived.Test.YtinflpheogglhaaK00
import Derived.Test.YtinflpheogglhaaK06
import Derived.Test.YtinflpheogglhaaK07
namespace Go.Proofs.Ytinflpheogglhaa
open Go Go.RowKit
set_option maxRecDepth 100000 in
set_option maxHeartbeats 1600000 in
theorem chooseGoes_law (n : Int) (A : Option Addr) (m c : Nat) (l : List Rpt) (w : World) (_hn : (Lit.int .i64 n).wf = true) (hl : Ls rptC 11 w w.heap.size A m c l ∧ ∀ a ∈ l, a.Wf) :
    Calls Try.prog 5 #[.int .i64 n, .slice A m c] w fun e w' => e = .returned (.bool true) ∧ Below w.heap.size w w' := by
  show Calls Try.prog 5 #[.int .i64 n, .slice A m c] w fun e w' => e = .returned (.bool true) ∧ Ext w w'
  obtain ⟨h, _⟩ := hl
  have hcap := h.cap
  have hmost := h.most
  have H := Lib.hid h
  have HLN := Lib.hid h.len
  obtain ⟨D, hD⟩ : ∃ D, decR n l = D := ⟨_, rfl⟩
  obtain ⟨FF, hF⟩ : ∃ FF, decE n l = FF := ⟨_, rfl⟩
  have h3 := decR_three n l
  rw [hD] at h3
  obtain ⟨q, E⟩ := D
  dsimp only at h3
  have HD := Lib.hid hD
  have HFF := Lib.hid hF
  clear h hD hF
  go_enter Try.func5, Try.ntmps5
  go_wp2_with fail
  refine (chawake_of _).mono ?_
  rintro _ w1 ⟨rfl, hx1⟩
  have H1 := Lib.hid ((H.out.below hx1).moreB hx1.size)
  have HX1 := Lib.hid hx1
  clear hx1
  have HC1 := Lib.hid (decide_of n A m c l w1 H1.out)
  rw [HD.out, HFF.out] at HC1
  dsimp only at HC1
  go_wp2_with fail
  refine HC1.out.mono ?_
  rintro _ w2 ⟨rfl, hx⟩
  have HX2 := Lib.hid (HX1.out.trans hx)
  have H2 := Lib.hid ((H1.out.below hx).moreB hx.size)
  clear hx HC1 HX1 H1
  go_upto_region 4 with (fail)
  have hg := heap_alloc_new w2 (.cells #[.int .u8 (E.k : Int), .int .i64 E.cl, .int .i64 E.sq, .int .u8 (E.ok : Int), .string E.key, .string E.old, .string E.val] 27)
  have hx := (Ext.refl w2).alloc (.cells #[.int .u8 (E.k : Int), .int .i64 E.cl, .int .i64 E.sq, .int .u8 (E.ok : Int), .string E.key, .string E.old, .string E.val] 27)
  generalize (w2.alloc (.cells #[.int .u8 (E.k : Int), .int .i64 E.cl, .int .i64 E.sq, .int .u8 (E.ok : Int), .string E.key, .string E.old, .string E.val] 27)) = w3 at *
  have HX3 := Lib.hid (HX2.out.trans hx)
  have H3 := Lib.hid ((H2.out.below hx).moreB hx.size)
  have HG := Lib.hid hg
  generalize w2.heap.size = b1 at *
  clear hg hx HX2 H2
  cases hok : okR n l with
  | false =>
    have HOK := Lib.hid hok
    have hde := dec_err hok
    rw [HD.out, HFF.out] at hde
    obtain ⟨hde, rfl⟩ := hde
    obtain rfl : q = 0 := congrArg Prod.fst hde
    have hE : E = {} := congrArg Prod.snd hde
    have hq : ∀ V, (binOp .eql 27 (eA E) (.agg #[.int .u8 0, .int .i64 0, .int .i64 0, .int .u8 0, .string ⟨#[]⟩, .string ⟨#[]⟩, .string ⟨#[]⟩])).run Try.prog V = .ok (.bool true) V := fun V => by
      have h := cent_eql E {} V
      rw [hE, eqE_self] at h
      rw [hE]
      exact h
    have HQ := Lib.hid hq
    clear hok hde hE hq h3
    go_wp2_with fail
    refine (chmay_of n A m c l _ H3.out).mono ?_
    rintro _ w4 ⟨rfl, hw⟩
    subst hw
    rw [HOK.out]
    obtain ⟨⟨d0, d1, d2, d3, d4, d5, d6⟩, _⟩ := ent_row HG.out
    have hq := HQ.out
    go_wp2_with fail
    go_ret
    exact ⟨rfl, HX3.out⟩
  | true =>
    obtain ⟨hn3, hlen, hst⟩ := okR_iff.1 hok
    rw [HLN.out] at hlen
    obtain rfl := hlen
    have HOK := Lib.hid hok
    have hm7 : m ≤ 7 := by omega
    have HMM : Hid (mostQ (m : Int) = m / 2 + 1) := Lib.hid (most_half (by
      rcases hn3 with e | e | e
      · rw [e]; decide
      · rw [e]; decide
      · rw [e]; decide)).1
    have hF0 := (dec_ok hok).2
    rw [HFF.out] at hF0
    subst hF0
    clear hok hn3 hst
    go_wp2_with fail
    refine (chmay_of (m : Int) A m c l _ H3.out).mono ?_
    rintro _ w4 ⟨rfl, hw⟩
    subst hw
    rw [HOK.out]
    go_wp2_with fail
    go_loopw [8, 9, 10, 11, 12] (fun pv nv sv bv iv wr => ∃ (j cn cp cs : Nat) (isb : Bool), j ≤ m ∧ iv = .int .i64 (j : Int) ∧ pv = .int .i64 (cp : Int) ∧ nv = .int .i64 (cn : Int) ∧ sv = .int .i64 (cs : Int) ∧ bv = .bool isb ∧ Hid ((l.take j).countP (fun r : Rpt => decide (r.st = 0)) = cn ∧ (l.take j).countP (fun r : Rpt => decide (r.st = 1 ∨ r.st = 2)) = cp ∧ (l.take j).countP (fun r : Rpt => decide (¬ r.st = 0 ∧ ¬ (r.st = 1 ∨ r.st = 2))) = cs ∧ isb = (l.take j).any (fun r : Rpt => decide (r.st = 2) && eqE r.e E)) ∧ Hid (Ext w3 wr)) (fun _ _ _ _ iv _ => m - (intOf iv).toNat)
    case atStart => exact ⟨0, 0, 0, 0, false, Nat.zero_le _, rfl, rfl, rfl, rfl, rfl, Lib.hid ⟨rfl, rfl, rfl, rfl⟩, Lib.hid (Ext.refl _)⟩
    case round =>
      obtain ⟨j, cn, cp, cs, isb, hj, rfl, rfl, rfl, rfl, rfl, HCN, HX⟩ := hrel
      have hcn : cn ≤ 7 := by rw [← HCN.out.1]; exact Nat.le_trans List.countP_le_length (by rw [List.length_take]; omega)
      have hcp : cp ≤ 7 := by rw [← HCN.out.2.1]; exact Nat.le_trans List.countP_le_length (by rw [List.length_take]; omega)
      have hcs : cs ≤ 7 := by rw [← HCN.out.2.2.1]; exact Nat.le_trans List.countP_le_length (by rw [List.length_take]; omega)
      obtain ⟨⟨d0, d1, d2, d3, d4, d5, d6⟩, _⟩ := ent_row (keep_rowB HX.out HG.out)
      by_cases hlt : j < m
      · obtain ⟨g, o, r, rfl, _, hb, hrc⟩ := Ls.rpt (H3.out.below HX.out) hlt
        obtain ⟨ix, st, rx, ry, e⟩ := r
        have HTK := Lib.hid (take_oneR hb)
        obtain ⟨c0, c1, c2, c3, c4, c5, c6, c7, c8, c9, c10⟩ := hrc
        dsimp only at c1 c4 c5 c6 c7 c8 c9 c10
        clear c0 c2 c3 hb
        by_cases h0 : st = 0
        · have hs := h0
          clear h0
          subst hs
          cases isb with
          | true =>
            go_wp2_with fail
            go_region
            clear c1 c4 c5 c6 c7 c8 c9 c10 d0 d1 d2 d3 d4 d5 d6
            have HX2 := Lib.hid (HX.out.trans (Ext.refl _).drew)
            go_wp2_with fail
            go_roundw
            case rel =>
              refine ⟨j + 1, _, _, _, _, by omega, by go_num, rfl, rfl, rfl, rfl, ?_, HX2⟩
              refine Lib.hid ⟨?_, ?_, ?_, ?_⟩
              · rw [HTK.out, List.countP_append, HCN.out.1, List.countP_cons, List.countP_nil]
                rfl
              · rw [HTK.out, List.countP_append, HCN.out.2.1, List.countP_cons, List.countP_nil]
                rfl
              · rw [HTK.out, List.countP_append, HCN.out.2.2.1, List.countP_cons, List.countP_nil]
                rfl
              · rw [HTK.out, List.any_append, ← HCN.out.2.2.2, List.any_cons, List.any_nil]
                rfl
            case measure => simp [intOf]; omega
          | false =>
            go_wp2_with fail
            go_region
            clear c1 c4 c5 c6 c7 c8 c9 c10 d0 d1 d2 d3 d4 d5 d6
            have HX2 := Lib.hid (HX.out.trans (Ext.refl _).drew)
            go_wp2_with fail
            go_roundw
            case rel =>
              refine ⟨j + 1, _, _, _, _, by omega, by go_num, rfl, rfl, rfl, rfl, ?_, HX2⟩
              refine Lib.hid ⟨?_, ?_, ?_, ?_⟩
              · rw [HTK.out, List.countP_append, HCN.out.1, List.countP_cons, List.countP_nil]
                rfl
              · rw [HTK.out, List.countP_append, HCN.out.2.1, List.countP_cons, List.countP_nil]
                rfl
              · rw [HTK.out, List.countP_append, HCN.out.2.2.1, List.countP_cons, List.countP_nil]
                rfl
              · rw [HTK.out, List.any_append, ← HCN.out.2.2.2, List.any_cons, List.any_nil]
                rfl
            case measure => simp [intOf]; omega
        by_cases h1 : st = 1
        · have hs := h1
          clear h1 h0
          subst hs
          cases isb with
          | true =>
            go_wp2_with fail
            go_region
            clear c1 c4 c5 c6 c7 c8 c9 c10 d0 d1 d2 d3 d4 d5 d6
            have HX2 := Lib.hid (HX.out.trans (Ext.refl _).drew)
            go_wp2_with fail
            go_roundw
            case rel =>
              refine ⟨j + 1, _, _, _, _, by omega, by go_num, rfl, rfl, rfl, rfl, ?_, HX2⟩
              refine Lib.hid ⟨?_, ?_, ?_, ?_⟩
              · rw [HTK.out, List.countP_append, HCN.out.1, List.countP_cons, List.countP_nil]
                rfl
              · rw [HTK.out, List.countP_append, HCN.out.2.1, List.countP_cons, List.countP_nil]
                rfl
              · rw [HTK.out, List.countP_append, HCN.out.2.2.1, List.countP_cons, List.countP_nil]
                rfl
              · rw [HTK.out, List.any_append, ← HCN.out.2.2.2, List.any_cons, List.any_nil]
                rfl
            case measure => simp [intOf]; omega
          | false =>
            go_wp2_with fail
            go_region
            clear c1 c4 c5 c6 c7 c8 c9 c10 d0 d1 d2 d3 d4 d5 d6
            have HX2 := Lib.hid (HX.out.trans (Ext.refl _).drew)
            go_wp2_with fail
            go_roundw
            case rel =>
              refine ⟨j + 1, _, _, _, _, by omega, by go_num, rfl, rfl, rfl, rfl, ?_, HX2⟩
              refine Lib.hid ⟨?_, ?_, ?_, ?_⟩
              · rw [HTK.out, List.countP_append, HCN.out.1, List.countP_cons, List.countP_nil]
                rfl
              · rw [HTK.out, List.countP_append, HCN.out.2.1, List.countP_cons, List.countP_nil]
                rfl
              · rw [HTK.out, List.countP_append, HCN.out.2.2.1, List.countP_cons, List.countP_nil]
                rfl
              · rw [HTK.out, List.any_append, ← HCN.out.2.2.2, List.any_cons, List.any_nil]
                rfl
            case measure => simp [intOf]; omega
        by_cases h2 : st = 2
        · have hs := h2
          clear h2 h1 h0
          subst hs
          cases isb with
          | true =>
            go_wp2_with fail
            go_region
            clear c1 c4 c5 c6 c7 c8 c9 c10 d0 d1 d2 d3 d4 d5 d6
            have HX2 := Lib.hid (HX.out.trans (Ext.refl _).drew)
            go_wp2_with fail
            go_roundw
            case rel =>
              refine ⟨j + 1, _, _, _, _, by omega, by go_num, rfl, rfl, rfl, rfl, ?_, HX2⟩
              refine Lib.hid ⟨?_, ?_, ?_, ?_⟩
              · rw [HTK.out, List.countP_append, HCN.out.1, List.countP_cons, List.countP_nil]
                rfl
              · rw [HTK.out, List.countP_append, HCN.out.2.1, List.countP_cons, List.countP_nil]
                rfl
              · rw [HTK.out, List.countP_append, HCN.out.2.2.1, List.countP_cons, List.countP_nil]
                rfl
              · rw [HTK.out, List.any_append, ← HCN.out.2.2.2, List.any_cons, List.any_nil]
                rfl
            case measure => simp [intOf]; omega
          | false =>
            have hq := fun V => cent_eql e E V
            obtain ⟨rr, hrr⟩ : ∃ rr, eqE e E = rr := ⟨_, rfl⟩
            rw [hrr] at hq
            have HRR := Lib.hid hrr
            clear hrr
            go_wp2_with fail
            go_region
            clear c1 c4 c5 c6 c7 c8 c9 c10 d0 d1 d2 d3 d4 d5 d6 hq
            have HX2 := Lib.hid (HX.out.trans (Ext.refl _).drew)
            cases rr with
            | true =>
              go_wp2_with fail
              go_roundw
              case rel =>
                refine ⟨j + 1, _, _, _, _, by omega, by go_num, rfl, rfl, rfl, rfl, ?_, HX2⟩
                refine Lib.hid ⟨?_, ?_, ?_, ?_⟩
                · rw [HTK.out, List.countP_append, HCN.out.1, List.countP_cons, List.countP_nil]
                  rfl
                · rw [HTK.out, List.countP_append, HCN.out.2.1, List.countP_cons, List.countP_nil]
                  rfl
                · rw [HTK.out, List.countP_append, HCN.out.2.2.1, List.countP_cons, List.countP_nil]
                  rfl
                · rw [HTK.out, List.any_append, ← HCN.out.2.2.2, List.any_cons, List.any_nil]
                  show true = (false || ((true && eqE e E) || false))
                  rw [HRR.out]
                  rfl
              case measure => simp [intOf]; omega
            | false =>
              go_wp2_with fail
              go_roundw
              case rel =>
                refine ⟨j + 1, _, _, _, _, by omega, by go_num, rfl, rfl, rfl, rfl, ?_, HX2⟩
                refine Lib.hid ⟨?_, ?_, ?_, ?_⟩
                · rw [HTK.out, List.countP_append, HCN.out.1, List.countP_cons, List.countP_nil]
                  rfl
                · rw [HTK.out, List.countP_append, HCN.out.2.1, List.countP_cons, List.countP_nil]
                  rfl
                · rw [HTK.out, List.countP_append, HCN.out.2.2.1, List.countP_cons, List.countP_nil]
                  rfl
                · rw [HTK.out, List.any_append, ← HCN.out.2.2.2, List.any_cons, List.any_nil]
                  show false = (false || ((true && eqE e E) || false))
                  rw [HRR.out]
                  rfl
              case measure => simp [intOf]; omega
        have e0 : ((st : Int) == 0) = false := by rw [st_is0]; exact decide_eq_false (by omega)
        have e1 : ((st : Int) == 1) = false := by rw [← Bool.not_eq_true, beq_iff_eq]; omega
        have e2 : ((st : Int) == 2) = false := by rw [st_is2]; exact decide_eq_false (by omega)
        have HS2 : Hid (decide (st = 2) = false) := Lib.hid (decide_eq_false (by omega))
        have HS := Lib.hid (And.intro h0 (And.intro (show ¬ (st = 1 ∨ st = 2) by omega) h2))
        clear h0 h1 h2
        cases isb with
        | true =>
          go_wp2_with fail
          go_region
          clear c1 c4 c5 c6 c7 c8 c9 c10 d0 d1 d2 d3 d4 d5 d6
          have HX2 := Lib.hid (HX.out.trans (Ext.refl _).drew)
          go_wp2_with fail
          go_roundw
          case rel =>
            refine ⟨j + 1, _, _, _, _, by omega, by go_num, rfl, rfl, rfl, rfl, ?_, HX2⟩
            refine Lib.hid ⟨?_, ?_, ?_, ?_⟩
            · rw [HTK.out, List.countP_append, HCN.out.1, List.countP_cons, List.countP_nil]
              rw [show decide ((⟨ix, st, rx, ry, e⟩ : Rpt).st = 0) = false from decide_eq_false HS.out.1]
              rfl
            · rw [HTK.out, List.countP_append, HCN.out.2.1, List.countP_cons, List.countP_nil]
              rw [show decide ((⟨ix, st, rx, ry, e⟩ : Rpt).st = 1 ∨ (⟨ix, st, rx, ry, e⟩ : Rpt).st = 2) = false from decide_eq_false HS.out.2.1]
              rfl
            · rw [HTK.out, List.countP_append, HCN.out.2.2.1, List.countP_cons, List.countP_nil]
              rw [show decide (¬ (⟨ix, st, rx, ry, e⟩ : Rpt).st = 0 ∧ ¬ ((⟨ix, st, rx, ry, e⟩ : Rpt).st = 1 ∨ (⟨ix, st, rx, ry, e⟩ : Rpt).st = 2)) = true from decide_eq_true ⟨HS.out.1, HS.out.2.1⟩]
              rfl
            · rw [HTK.out, List.any_append, ← HCN.out.2.2.2, List.any_cons, List.any_nil]
              rfl
          case measure => simp [intOf]; omega
        | false =>
          go_wp2_with fail
          go_region
          clear c1 c4 c5 c6 c7 c8 c9 c10 d0 d1 d2 d3 d4 d5 d6
          have HX2 := Lib.hid (HX.out.trans (Ext.refl _).drew)
          go_wp2_with fail
          go_roundw
          case rel =>
            refine ⟨j + 1, _, _, _, _, by omega, by go_num, rfl, rfl, rfl, rfl, ?_, HX2⟩
            refine Lib.hid ⟨?_, ?_, ?_, ?_⟩
            · rw [HTK.out, List.countP_append, HCN.out.1, List.countP_cons, List.countP_nil]
              rw [show decide ((⟨ix, st, rx, ry, e⟩ : Rpt).st = 0) = false from decide_eq_false HS.out.1]
              rfl
            · rw [HTK.out, List.countP_append, HCN.out.2.1, List.countP_cons, List.countP_nil]
              rw [show decide ((⟨ix, st, rx, ry, e⟩ : Rpt).st = 1 ∨ (⟨ix, st, rx, ry, e⟩ : Rpt).st = 2) = false from decide_eq_false HS.out.2.1]
              rfl
            · rw [HTK.out, List.countP_append, HCN.out.2.2.1, List.countP_cons, List.countP_nil]
              rw [show decide (¬ (⟨ix, st, rx, ry, e⟩ : Rpt).st = 0 ∧ ¬ ((⟨ix, st, rx, ry, e⟩ : Rpt).st = 1 ∨ (⟨ix, st, rx, ry, e⟩ : Rpt).st = 2)) = true from decide_eq_true ⟨HS.out.1, HS.out.2.1⟩]
              rfl
            · rw [HTK.out, List.any_append, ← HCN.out.2.2.2, List.any_cons, List.any_nil]
              show false = (false || ((decide (st = 2) && _) || false))
              rw [HS2.out]
              rfl
          case measure => simp [intOf]; omega
      · obtain rfl : j = m := by omega
        have e : l.take j = l := List.take_of_length_le (by rw [HLN.out]; exact Nat.le_refl _)
        rw [e] at HCN
        have hlen' := HLN.out
        have HX := Lib.hid (HX3.out.trans HX.out)
        obtain ⟨m, hm⟩ : ∃ m, m = j := ⟨_, rfl⟩
        subst hm
        clear e
        rcases h3 with rfl | rfl | rfl
        · skip
          obtain ⟨hnz, hsp, hE⟩ := goes_wait HOK.out (by rw [HD.out])
          rw [HD.out] at hE
          dsimp only at hE
          rw [hlen'] at hsp
          rw [HCN.out.1] at hnz
          rw [HCN.out.2.1, HCN.out.2.2.1] at hsp
          have HMO := Lib.hid (fun V => most_of (m : Int) V)
          rw [HMM.out] at HMO
          have HSP := Lib.hid hsp
          have hq : ∀ V, (binOp .neq 27 (eA E) (.agg #[.int .u8 0, .int .i64 0, .int .i64 0, .int .u8 0, .string ⟨#[]⟩, .string ⟨#[]⟩, .string ⟨#[]⟩])).run Try.prog V = .ok (.bool false) V := fun V => by
            have h := cent_neq E {} V
            rw [hE, eqE_self] at h
            rw [hE]
            exact h
          have hnz2 : ((cn : Int) == 0) = false := by rw [st_is0]; exact decide_eq_false hnz
          clear hsp hE hnz hlen'
          by_cases hge : m / 2 + 1 ≤ cp
          · have hsp := HSP.out hge
            have hsz : ((cs : Int) == 0) = false := by rw [st_is0]; exact decide_eq_false hsp
            have hgz := hge
            obtain ⟨M, hM⟩ : ∃ M, m / 2 + 1 = M := ⟨_, rfl⟩
            rw [hM] at HMO hgz
            clear hge hsp hM
            go_wp2_with fail
            refine (HMO.out _).mono ?_
            rintro _ w9 ⟨rfl, hw⟩
            subst hw
            go_wp2_with fail
            go_ret
            exact ⟨rfl, HX.out⟩
          · have hgz := hge
            obtain ⟨M, hM⟩ : ∃ M, m / 2 + 1 = M := ⟨_, rfl⟩
            rw [hM] at HMO hgz
            clear hge hM
            go_wp2_with fail
            refine (HMO.out _).mono ?_
            rintro _ w9 ⟨rfl, hw⟩
            subst hw
            go_wp2_with fail
            go_ret
            exact ⟨rfl, HX.out⟩
        · skip
          have hE := goes_noop HOK.out (by rw [HD.out])
          rw [HD.out] at hE
          dsimp only at hE
          have hq : ∀ V, (binOp .eql 27 (eA E) (.agg #[.int .u8 1, .int .i64 0, .int .i64 0, .int .u8 0, .string ⟨#[]⟩, .string ⟨#[]⟩, .string ⟨#[]⟩])).run Try.prog V = .ok (.bool true) V := fun V => by
            have h := cent_eql E noopE V
            rw [hE, eqE_self] at h
            rw [hE]
            exact h
          clear hE hlen'
          go_wp2_with fail
          go_ret
          exact ⟨rfl, HX.out⟩
        · skip
          obtain ⟨r, hr, hs, he⟩ := goes_value HOK.out (by rw [HD.out])
          rw [HD.out] at he
          dsimp only at he
          have hi2 : isb = true := by
            rw [HCN.out.2.2.2]
            exact List.any_eq_true.2 ⟨r, hr, by rw [decide_eq_true hs, he, eqE_self]; rfl⟩
          subst hi2
          clear hr hs he hlen'
          go_wp2_with fail
          go_ret
          exact ⟨rfl, HX.out⟩
end Go.Proofs.Ytinflpheogglhaa
