/-
  The walk of ChooseTurned: the answer doesn't hang on the order of the reports.
-/
import Derived.Test.YtinflpheogglhaaK00
import Derived.Test.YtinflpheogglhaaK05
import Derived.Test.YtinflpheogglhaaK06
import Derived.Test.YtinflpheogglhaaK07
namespace Go.Proofs.Ytinflpheogglhaa
open Go Go.RowKit
theorem mod_pick (f i m : Nat) : ((f : Int) + (i : Int)) % (m : Int) = (((f + i) % m : Nat) : Int) := rfl
set_option maxRecDepth 100000 in
set_option maxHeartbeats 1600000 in
theorem chooseTurned_law (n : Int) (A : Option Addr) (m c : Nat) (l : List Rpt) (fr : Int) (back : Bool) (w : World) (_hn : (Lit.int .i64 n).wf = true) (hl : Ls rptC 11 w w.heap.size A m c l ∧ ∀ a ∈ l, a.Wf) (_hfr : (Lit.int .i64 fr).wf = true) :
    Calls Try.prog 7 #[.int .i64 n, .slice A m c, .int .i64 fr, .bool back] w fun e w' => e = .returned (.bool true) ∧ Below w.heap.size w w' := by
  show Calls Try.prog 7 #[.int .i64 n, .slice A m c, .int .i64 fr, .bool back] w fun e w' => e = .returned (.bool true) ∧ Ext w w'
  obtain ⟨h, _⟩ := hl
  obtain ⟨i0, hi0, hz0, hz1, hz2⟩ := info_parts report_info
  have hcap := h.cap
  have hmost := h.most
  have H := Lib.hid h
  have HLN := Lib.hid h.len
  clear h
  go_enter Try.func7, Try.ntmps7
  go_wp2_with fail
  refine (chawake_of _).mono ?_
  rintro _ w1 ⟨rfl, hx1⟩
  have H1 := Lib.hid ((H.out.below hx1).moreB hx1.size)
  have HX1 := Lib.hid hx1
  clear hx1
  go_wp2_with fail
  refine (chmay_of n A m c l _ H1.out).mono ?_
  rintro _ w4 ⟨rfl, hw⟩
  subst hw
  cases hok : okR n l with
  | false =>
    go_wp2_with fail
    go_ret
    exact ⟨rfl, HX1.out⟩
  | true =>
    obtain ⟨hn3, hlen, hst⟩ := okR_iff.1 hok
    rw [HLN.out] at hlen
    obtain rfl := hlen
    have HOK := Lib.hid hok
    have hm7 : m ≤ 7 := by omega
    have hm0 : ¬ m = 0 := by omega
    obtain ⟨f, hf, hfw⟩ := wrap_modR fr m (by omega) (by omega)
    have HFW := Lib.hid hfw
    clear hok hn3 hst hfw
    go_upto_region 6 with (fail)
    simp only [HFW.out]
    go_wp2_with fail
    go_loopw [9, 10] (fun v' iv wr => ∃ (i : Nat) (v : Value) (T : List Rpt), v = v' ∧ i ≤ m ∧ iv = .int .i64 (i : Int) ∧ Hid (wr.ownsRow w1.heap.size 54 11 v T.length (T.flatMap rptC) ∧ Ext w1 wr ∧ T.length = i ∧ (∀ p, p < i → T[p]? = l[turnI m f back p]?) ∧ ∀ (p q : Nat) (x y : Rpt), p < i → l[p]? = some x → l[q]? = some y → x.st = 2 → y.st = 2 → x.b = y.b → x.e = y.e)) (fun _ iv _ => m - (intOf iv).toNat)
    case atStart => exact ⟨0, _, [], rfl, Nat.zero_le _, rfl, Lib.hid ⟨World.ownsRow_nil _ _ _ _, Ext.refl _, rfl, fun p hp => absurd hp (Nat.not_lt_zero _), fun p q x y hp => absurd hp (Nat.not_lt_zero _)⟩⟩
    case round =>
      obtain ⟨i, v, T, rfl, hi, rfl, HG⟩ := hrel
      have htl : T.length ≤ 7 := by rw [HG.out.2.2.1]; omega
      by_cases hlt : i < m
      · obtain ⟨g, o, rI, hA, _, hbI, _⟩ := Ls.rpt (H1.out.below HG.out.2.1) hlt
        subst hA
        obtain ⟨ix, st, rx, ry, e⟩ := rI
        have HBI := Lib.hid hbI
        obtain ⟨W1, hW1⟩ : ∃ W1, W1 = wr := ⟨_, rfl⟩
        subst hW1
        clear hbI
        go_wp2_with fail
        go_loopw [11] (fun kv wr => ∃ k : Nat, k ≤ m ∧ kv = .int .i64 (k : Int) ∧ Hid (∀ (q : Nat) (y : Rpt), q < k → l[q]? = some y → st = 2 → y.st = 2 → (⟨rx, ry⟩ : Bal) = y.b → e = y.e) ∧ Hid (Ext W1 wr)) (fun kv _ => m - (intOf kv).toNat)
        case atStart => exact ⟨0, Nat.zero_le _, rfl, Lib.hid fun q y hq => absurd hq (Nat.not_lt_zero _), Lib.hid (Ext.refl _)⟩
        case round =>
          obtain ⟨k, hk, rfl, HA, HXj⟩ := hrel
          by_cases hlt2 : k < m
          · obtain ⟨g2, o2, rK, hA2, _, hbK, hrk⟩ := Ls.rpt (H1.out.below (HG.out.2.1.trans HXj.out)) hlt2
            injection hA2 with hA2
            injection hA2 with hA2 hA3
            subst hA2 hA3
            obtain ⟨_, c1, c2, c3, c4, c5, c6, c7, c8, c9, c10⟩ := RCat (H1.out.below (HG.out.2.1.trans HXj.out)) HBI.out
            obtain ⟨kix, kst, sx, sy, ke⟩ := rK
            obtain ⟨_, d1, d2, d3, d4, d5, d6, d7, d8, d9, d10⟩ := hrk
            dsimp only at c1 c2 c3 c4 c5 c6 c7 c8 c9 c10 d1 d2 d3 d4 d5 d6 d7 d8 d9 d10
            have HBK := Lib.hid hbK
            clear hbK
            by_cases hs : st = 2
            · subst hs
              by_cases ht : kst = 2
              · subst ht
                have hqb := fun V => bal_eql rx ry sx sy V
                by_cases hbe : rx = sx ∧ ry = sy
                · have hqe := fun V => cent_neq e ke V
                  obtain ⟨rfl, rfl⟩ := hbe
                  rw [decide_eq_true (show rx = rx ∧ ry = ry from ⟨rfl, rfl⟩)] at hqb
                  by_cases hee : e = ke
                  · subst hee
                    rw [eqE_self] at hqe
                    try dsimp only [Bool.not_true] at hqe
                    go_wp2_with fail
                    go_region
                    clear c1 c2 c3 c4 c5 c6 c7 c8 c9 c10 d1 d2 d3 d4 d5 d6 d7 d8 d9 d10 hqb hqe
                    have HXn := Lib.hid (HXj.out.trans (Ext.refl _).drew)
                    go_wp2_with fail
                    go_roundw
                    case rel =>
                      refine ⟨k + 1, by omega, by go_num, Lib.hid fun q y hq hy hs1 hs2 hb => ?_, HXn⟩
                      by_cases hqk : q = k
                      · subst hqk
                        rw [HBK.out] at hy
                        injection hy with hy
                        subst hy
                        rfl
                      · exact HA.out q y (by omega) hy hs1 hs2 hb
                    case measure => simp [intOf]; omega
                  · have hen : eqE e ke = false := by rw [← Bool.not_eq_true, eqE_iff]; exact hee
                    rw [hen] at hqe
                    try dsimp only [Bool.not_false] at hqe
                    clear hee hen
                    go_wp2_with fail
                    go_region
                    clear c1 c2 c3 c4 c5 c6 c7 c8 c9 c10 d1 d2 d3 d4 d5 d6 d7 d8 d9 d10 hqb hqe
                    have HXn := Lib.hid (HX1.out.trans (HG.out.2.1.trans (HXj.out.trans (Ext.refl _).drew)))
                    go_wp2_with fail
                    go_ret
                    exact ⟨rfl, HXn.out⟩
                · rw [decide_eq_false hbe] at hqb
                  have HBE := Lib.hid hbe
                  clear hbe
                  go_wp2_with fail
                  go_region
                  clear c1 c2 c3 c4 c5 c6 c7 c8 c9 c10 d1 d2 d3 d4 d5 d6 d7 d8 d9 d10 hqb
                  have HXn := Lib.hid (HXj.out.trans (Ext.refl _).drew)
                  go_wp2_with fail
                  go_roundw
                  case rel =>
                    refine ⟨k + 1, by omega, by go_num, Lib.hid fun q y hq hy hs1 hs2 hb => ?_, HXn⟩
                    by_cases hqk : q = k
                    · subst hqk
                      rw [HBK.out] at hy
                      injection hy with hy
                      subst hy
                      injection hb with hb1 hb2
                      exact absurd ⟨hb1, hb2⟩ HBE.out
                    · exact HA.out q y (by omega) hy hs1 hs2 hb
                  case measure => simp [intOf]; omega
              · have e2 : ((kst : Int) == 2) = false := by rw [st_is2]; exact decide_eq_false ht
                have HT := Lib.hid ht
                clear ht
                go_wp2_with fail
                go_region
                clear c1 c2 c3 c4 c5 c6 c7 c8 c9 c10 d1 d2 d3 d4 d5 d6 d7 d8 d9 d10 
                have HXn := Lib.hid (HXj.out.trans (Ext.refl _).drew)
                go_wp2_with fail
                go_roundw
                case rel =>
                  refine ⟨k + 1, by omega, by go_num, Lib.hid fun q y hq hy hs1 hs2 hb => ?_, HXn⟩
                  by_cases hqk : q = k
                  · subst hqk
                    rw [HBK.out] at hy
                    injection hy with hy
                    subst hy
                    exact absurd hs2 HT.out
                  · exact HA.out q y (by omega) hy hs1 hs2 hb
                case measure => simp [intOf]; omega
            · have e2 : ((st : Int) == 2) = false := by rw [st_is2]; exact decide_eq_false hs
              have HS := Lib.hid hs
              clear hs
              go_wp2_with fail
              go_region
              clear c1 c2 c3 c4 c5 c6 c7 c8 c9 c10 d1 d2 d3 d4 d5 d6 d7 d8 d9 d10 
              have HXn := Lib.hid (HXj.out.trans (Ext.refl _).drew)
              go_wp2_with fail
              go_roundw
              case rel =>
                refine ⟨k + 1, by omega, by go_num, Lib.hid fun q y hq hy hs1 hs2 hb => ?_, HXn⟩
                by_cases hqk : q = k
                · subst hqk
                  rw [HBK.out] at hy
                  injection hy with hy
                  subst hy
                  exact absurd hs1 HS.out
                · exact HA.out q y (by omega) hy hs1 hs2 hb
              case measure => simp [intOf]; omega
          · obtain rfl : k = m := by omega
            obtain ⟨m, hm⟩ : ∃ m, m = k := ⟨_, rfl⟩
            subst hm
            have HTM := Lib.hid (mod_pick f i m)
            have hat : (f + i) % m < m := Nat.mod_lt _ (by omega)
            go_upto_region 16 with (fail)
            simp only [HTM.out]
            cases back with
            | false =>
              have HAT := Lib.hid hat
              obtain ⟨a, ha⟩ : ∃ a, (f + i) % m = a := ⟨_, rfl⟩
              have HAA : Hid (turnI m f false i = a) := Lib.hid ha
              rw [ha] at HAT hat ⊢
              clear ha
              obtain ⟨g3, o3, r, hA3, _, hb, hrc⟩ := Ls.rpt (H1.out.below (HG.out.2.1.trans HXj.out)) (show a < m from HAT.out)
              injection hA3 with hA3
              injection hA3 with hA3 hA4
              subst hA3 hA4
              obtain ⟨c0, c1, c2, c3, c4, c5, c6, c7, c8, c9, c10⟩ := hrc
              have HBR := Lib.hid hb
              have HGo := Lib.hid (ownsRow_extL HG.out.1 HXj.out)
              have HXo := Lib.hid (HG.out.2.1.trans HXj.out)
              have hszz := HXo.out.size
              clear hb
              go_wp2_with (at_builtin; revert c0)
              intro c0
              refine wpList_append_own _ rfl _ _ 22 rfl w1.heap.size 54 i0 (.agg #[.int .i64 0, .int .u8 0, .int .i64 0, .int .i64 0, .int .u8 0, .int .i64 0, .int .i64 0, .int .u8 0, .string ByteArray.empty, .string ByteArray.empty, .string ByteArray.empty]) 11 112 Try.underlying22 hi0 hz0 hz1 hz2 ?_ ?_ _ _ _ ?_ (ownsRow_extL HGo.out ((Ext.refl wr).alloc _)) ⟨wr.heap.size, 0, none⟩ 1 1 (rptC r) ?_ ?_ ?_ ?_ ?_ ?_ ?_ ?_
              case refine_1 => rfl
              case refine_2 => decide
              case refine_3 => rfl
              case refine_4 => rfl
              case refine_5 => rfl
              case refine_6 => exact cells_newR _ _ _
              case refine_7 => exact rptC_one r
              case refine_8 => unfold maxLen; omega
              case refine_9 => omega
              case refine_10 => (simp; omega)
              intro v1 w5 hown hg _
              have HG5 : Hid (w5.ownsRow w1.heap.size 54 11 v1 (T ++ [r]).length ((T ++ [r]).flatMap rptC) ∧ Ext w1 w5 ∧ (T ++ [r]).length = i + 1 ∧ (∀ p, p < i + 1 → (T ++ [r])[p]? = l[turnI m f false p]?) ∧ ∀ (p q : Nat) (x y : Rpt), p < i + 1 → l[p]? = some x → l[q]? = some y → x.st = 2 → y.st = 2 → x.b = y.b → x.e = y.e) := by
                refine Lib.hid ⟨?_, Below.grown (HXo.out.alloc _) hg (Nat.le_trans HXo.out.size (by simp)) (fun g hg' => (HGo.out.lt g hg').1), ?_, fun p hp => ?_, fun p q x y hp hx hy => ?_⟩
                · rw [List.length_append, List.flatMap_append, List.flatMap_cons, List.flatMap_nil, List.append_nil]
                  exact hown
                · rw [List.length_append, HG.out.2.2.1]
                  rfl
                · by_cases hpi : p = i
                  · subst hpi
                    rw [List.getElem?_append_right (by rw [HG.out.2.2.1]; exact Nat.le_refl _), HG.out.2.2.1, Nat.sub_self]
                    rw [HAA.out]
                    exact (HBR.out).symm
                  · rw [List.getElem?_append_left (by rw [HG.out.2.2.1]; omega)]
                    exact HG.out.2.2.2.1 p (by omega)
                · by_cases hpi : p = i
                  · subst hpi
                    rw [HBI.out] at hx
                    injection hx with hx
                    subst hx
                    intro h1 h2 h3
                    exact HA.out q y (by have := (List.getElem?_eq_some_iff.1 hy).1; rw [HLN.out] at this; exact this) hy h1 h2 h3
                  · exact HG.out.2.2.2.2 p q x y (by omega) hx hy
              clear hown hg c0 c1 c2 c3 c4 c5 c6 c7 c8 c9 c10
              go_wp2_with fail
              go_roundw
              case rel => exact ⟨i + 1, v1, T ++ [r], rfl, by omega, by go_num, HG5⟩
              case measure => simp [intOf]; omega
            | true =>
              obtain ⟨a0, ha0⟩ : ∃ a0, (f + i) % m = a0 := ⟨_, rfl⟩
              rw [ha0] at hat ⊢
              obtain ⟨a, ha⟩ : ∃ a, m - 1 - a0 = a := ⟨_, rfl⟩
              have HAT : Hid (a < m) := Lib.hid (by omega)
              have HAA : Hid (turnI m f true i = a) := Lib.hid (by show m - 1 - (f + i) % m = a; rw [ha0]; exact ha)
              have HSB : Hid ((m : Int) - 1 - (a0 : Int) = (a : Int)) := Lib.hid (by omega)
              clear ha ha0
              go_upto_region 18 with (fail)
              simp only [HSB.out]
              obtain ⟨g3, o3, r, hA3, _, hb, hrc⟩ := Ls.rpt (H1.out.below (HG.out.2.1.trans HXj.out)) (show a < m from HAT.out)
              injection hA3 with hA3
              injection hA3 with hA3 hA4
              subst hA3 hA4
              obtain ⟨c0, c1, c2, c3, c4, c5, c6, c7, c8, c9, c10⟩ := hrc
              have HBR := Lib.hid hb
              have HGo := Lib.hid (ownsRow_extL HG.out.1 HXj.out)
              have HXo := Lib.hid (HG.out.2.1.trans HXj.out)
              have hszz := HXo.out.size
              clear hb
              go_wp2_with (at_builtin; revert c0)
              intro c0
              refine wpList_append_own _ rfl _ _ 22 rfl w1.heap.size 54 i0 (.agg #[.int .i64 0, .int .u8 0, .int .i64 0, .int .i64 0, .int .u8 0, .int .i64 0, .int .i64 0, .int .u8 0, .string ByteArray.empty, .string ByteArray.empty, .string ByteArray.empty]) 11 112 Try.underlying22 hi0 hz0 hz1 hz2 ?_ ?_ _ _ _ ?_ (ownsRow_extL HGo.out ((Ext.refl wr).alloc _)) ⟨wr.heap.size, 0, none⟩ 1 1 (rptC r) ?_ ?_ ?_ ?_ ?_ ?_ ?_ ?_
              case refine_1 => rfl
              case refine_2 => decide
              case refine_3 => rfl
              case refine_4 => rfl
              case refine_5 => rfl
              case refine_6 => exact cells_newR _ _ _
              case refine_7 => exact rptC_one r
              case refine_8 => unfold maxLen; omega
              case refine_9 => omega
              case refine_10 => (simp; omega)
              intro v1 w5 hown hg _
              have HG5 : Hid (w5.ownsRow w1.heap.size 54 11 v1 (T ++ [r]).length ((T ++ [r]).flatMap rptC) ∧ Ext w1 w5 ∧ (T ++ [r]).length = i + 1 ∧ (∀ p, p < i + 1 → (T ++ [r])[p]? = l[turnI m f true p]?) ∧ ∀ (p q : Nat) (x y : Rpt), p < i + 1 → l[p]? = some x → l[q]? = some y → x.st = 2 → y.st = 2 → x.b = y.b → x.e = y.e) := by
                refine Lib.hid ⟨?_, Below.grown (HXo.out.alloc _) hg (Nat.le_trans HXo.out.size (by simp)) (fun g hg' => (HGo.out.lt g hg').1), ?_, fun p hp => ?_, fun p q x y hp hx hy => ?_⟩
                · rw [List.length_append, List.flatMap_append, List.flatMap_cons, List.flatMap_nil, List.append_nil]
                  exact hown
                · rw [List.length_append, HG.out.2.2.1]
                  rfl
                · by_cases hpi : p = i
                  · subst hpi
                    rw [List.getElem?_append_right (by rw [HG.out.2.2.1]; exact Nat.le_refl _), HG.out.2.2.1, Nat.sub_self]
                    rw [HAA.out]
                    exact (HBR.out).symm
                  · rw [List.getElem?_append_left (by rw [HG.out.2.2.1]; omega)]
                    exact HG.out.2.2.2.1 p (by omega)
                · by_cases hpi : p = i
                  · subst hpi
                    rw [HBI.out] at hx
                    injection hx with hx
                    subst hx
                    intro h1 h2 h3
                    exact HA.out q y (by have := (List.getElem?_eq_some_iff.1 hy).1; rw [HLN.out] at this; exact this) hy h1 h2 h3
                  · exact HG.out.2.2.2.2 p q x y (by omega) hx hy
              clear hown hg c0 c1 c2 c3 c4 c5 c6 c7 c8 c9 c10
              go_wp2_with fail
              go_roundw
              case rel => exact ⟨i + 1, v1, T ++ [r], rfl, by omega, by go_num, HG5⟩
              case measure => simp [intOf]; omega
      · obtain rfl : i = m := by omega
        obtain ⟨m, hm⟩ : ∃ m, m = i := ⟨_, rfl⟩
        subst hm
        have hperm : l.Perm T := turned_perm (back := back) HLN.out (by omega) hm7 hf HG.out.2.2.1 HG.out.2.2.2.1
        obtain ⟨hok2, hsame⟩ := turned_same hperm HOK.out fun x hx y hy hs1 hs2 hb => by
          obtain ⟨p, hp, e1⟩ := List.getElem_of_mem hx
          obtain ⟨q, hq, e2⟩ := List.getElem_of_mem hy
          exact HG.out.2.2.2.2 p q x y (by rw [← HLN.out]; exact hp) (by rw [← e1]; exact List.getElem?_eq_getElem hp) (by rw [← e2]; exact List.getElem?_eq_getElem hq) hs1 hs2 hb
        have hE1 := (dec_ok HOK.out).2
        have hE2 := (dec_ok hok2).2
        obtain ⟨A2, c2, hv, hl2⟩ := Ls.of_row (cells := rptC) (N := 11) (n := m) (e := 54) (B := w1.heap.size) (fun _ => rfl) (by omega) HG.out.2.2.1 (by rw [← HG.out.2.2.1]; exact HG.out.1)
        subst hv
        have HL2 := Lib.hid hl2
        have H3 := Lib.hid ((H1.out.below HG.out.2.1).moreB HG.out.2.1.size)
        have HX3 := Lib.hid (HX1.out.trans HG.out.2.1)
        have HC1 := Lib.hid (decide_of (m : Int) A m c l wr H3.out)
        have HC2 := Lib.hid (fun V h => decide_of (m : Int) A2 m c2 T V h)
        rw [hE1] at HC1
        rw [hE2, hsame] at HC2
        generalize decR (m : Int) l = D at HC1 HC2
        obtain ⟨q, E⟩ := D
        dsimp only at HC1 HC2
        clear hE1 hE2 hsame hok2 hperm hl2 HG
        go_wp2_with fail
        refine HC1.out.mono ?_
        rintro _ w4 ⟨rfl, hx⟩
        have HX4 := Lib.hid (HX3.out.trans hx)
        have HL4 := Lib.hid ((HL2.out.below hx).moreB hx.size)
        clear hx HC1 HX3 HL2 H3
        go_upto_region 20 with (fail)
        have hg := heap_alloc_new w4 (.cells #[.int .u8 (E.k : Int), .int .i64 E.cl, .int .i64 E.sq, .int .u8 (E.ok : Int), .string E.key, .string E.old, .string E.val] 27)
        have hx := (Ext.refl w4).alloc (.cells #[.int .u8 (E.k : Int), .int .i64 E.cl, .int .i64 E.sq, .int .u8 (E.ok : Int), .string E.key, .string E.old, .string E.val] 27)
        generalize (w4.alloc (.cells #[.int .u8 (E.k : Int), .int .i64 E.cl, .int .i64 E.sq, .int .u8 (E.ok : Int), .string E.key, .string E.old, .string E.val] 27)) = w5 at *
        have HX5 := Lib.hid (HX4.out.trans hx)
        have HL5 := Lib.hid ((HL4.out.below hx).moreB hx.size)
        have HG := Lib.hid hg
        generalize w4.heap.size = b1 at *
        clear hg hx HX4 HL4
        have HC3 := Lib.hid (HC2.out w5 HL5.out)
        clear HC2
        go_wp2_with fail
        refine HC3.out.mono ?_
        rintro _ w6 ⟨rfl, hx⟩
        have HX6 := Lib.hid (HX5.out.trans hx)
        have HG6 := Lib.hid (keep_rowB hx HG.out)
        clear hx HC3 HX5 HG
        go_upto_region 21 with (fail)
        have hg := heap_alloc_new w6 (.cells #[.int .u8 (E.k : Int), .int .i64 E.cl, .int .i64 E.sq, .int .u8 (E.ok : Int), .string E.key, .string E.old, .string E.val] 27)
        have hx := (Ext.refl w6).alloc (.cells #[.int .u8 (E.k : Int), .int .i64 E.cl, .int .i64 E.sq, .int .u8 (E.ok : Int), .string E.key, .string E.old, .string E.val] 27)
        generalize (w6.alloc (.cells #[.int .u8 (E.k : Int), .int .i64 E.cl, .int .i64 E.sq, .int .u8 (E.ok : Int), .string E.key, .string E.old, .string E.val] 27)) = w7 at *
        have HX7 := Lib.hid (HX6.out.trans hx)
        have HG7 := Lib.hid (And.intro (keep_rowB hx HG6.out) hg)
        generalize w6.heap.size = b2 at *
        clear hg hx HX6 HG6
        obtain ⟨⟨d0, d1, d2, d3, d4, d5, d6⟩, _⟩ := ent_row HG7.out.1
        obtain ⟨⟨f0, f1, f2, f3, f4, f5, f6⟩, _⟩ := ent_row HG7.out.2
        have hq := fun V => cent_eql E E V
        rw [eqE_self] at hq
        go_wp2_with fail
        go_ret
        exact ⟨rfl, HX7.out⟩
end Go.Proofs.Ytinflpheogglhaa
