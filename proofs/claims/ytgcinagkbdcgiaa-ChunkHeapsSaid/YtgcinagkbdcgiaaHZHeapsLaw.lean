/-
  ChunkHeaps: whatever is put into a heap and lost, it tells what the document's tells; what it tells may be written over.
-/
import Derived.Test.YtgcinagkbdcgiaaH00
import Derived.Test.YtgcinagkbdcgiaaH01
import Derived.Test.YtgcinagkbdcgiaaH05
namespace Go.Proofs.Ytgcinagkbdcgiaa
open Go Go.RowKit
theorem eqlH_nils (w : World) : (binOp .eql 23 (.pointer none) (.pointer none)).run Try.prog w = .ok (.bool true) w := by
  first | kernel_rfl | rfl | simp [binOp, go_sem]
theorem ext_setZ {W V : World} {q k : Nat} (hx : Ext W V) (hq : W.heap.size ≤ q) (v : Value) : Ext W (V.setCell ⟨q, k, none⟩ v) := Below.trans hx (below_of_modZ (mod_cellP V q k v) hq hx.size)
set_option maxRecDepth 100000 in
set_option maxHeartbeats 3200000 in
theorem chunkHeaps_law (count : Int) (A : Option Addr) (n c : Nat) (l : List ActH) (w : World) (_ : (Lit.int .i64 count).wf = true) (hl : Ls ActH.cells 3 w w.heap.size A n c l ∧ ∀ a ∈ l, a.Ok w w.heap.size) :
    Calls Try.prog 3 #[.int .i64 count, .slice A n c] w fun r' w' => r' = .returned (.bool true) ∧ Below w.heap.size w w' := by
  show Calls Try.prog 3 #[.int .i64 count, .slice A n c] w fun r' w' => r' = .returned (.bool true) ∧ Ext w w'
  have HL := Lib.hid hl
  have hcap := hl.1.cap
  have hmost := hl.1.most
  clear hl
  go_enter Try.func3, Try.ntmps3
  by_cases hn : n ≤ 60
  case neg =>
    have hn : (60 : Int) < (n : Int) := by omega
    go_wp2_with fail
    go_ret
    exact ⟨rfl, Ext.refl _⟩
  have hn' : (n : Int) ≤ 60 := by omega
  cases hin : inZ 1 count 8 with
  | false =>
    have HN1 := Lib.hid (znew_no count hin)
    have HN2 := Lib.hid (rznew_no count hin)
    have hnils := eqlH_nils
    clear hin
    go_wp2_with fail
    refine (HN1.out _).mono ?_
    rintro e w1 ⟨rfl, rfl⟩
    go_wp2_with fail
    refine (HN2.out _).mono ?_
    rintro e w1 ⟨rfl, rfl⟩
    go_wp2_with fail
    go_ret
    exact ⟨rfl, Ext.refl _⟩
  | true =>
    obtain ⟨cn, rfl⟩ : ∃ cn : Nat, count = (cn : Int) := ⟨count.toNat, by have := inZ_iff.1 hin; omega⟩
    have hcn : 1 ≤ cn ∧ cn ≤ 8 := by have := inZ_iff.1 hin; omega
    clear hin
    go_wp2_with fail
    refine (znew_yes cn hcn w).mono ?_
    rintro e w1 ⟨h, bm, rfl, z, hx, hh, hb⟩
    have HZ1 := Lib.hid z
    have HX1 := Lib.hid hx
    have HH1 := Lib.hid (And.intro hh hb)
    clear z hx hh hb
    go_wp2_with fail
    refine (rznew_yes cn hcn w1).mono ?_
    rintro e w2 ⟨y, gt, gl, rfl, r, hx2, hy, hgt, hgl⟩
    have hp0 : HP w w2 h cn bm y gt gl 0 (fun _ => none) (fun _ => none) := ⟨⟨0, Nat.le_refl _, HZ1.out.ext hx2⟩, r, HX1.out.trans hx2, by have := HX1.out.size; have := HH1.out; omega⟩
    have HP0 := Lib.hid hp0
    clear hp0 r hx2 hy hgt hgl HZ1 HX1 HH1
    go_wp2_with fail
    go_loopw [9] (fun v wr => ∃ (j : Nat) (f fr : Int → Option Lst), j ≤ n ∧ v = .int .i64 (j : Int) ∧ Hid (HP w wr h cn bm y gt gl j f fr) ∧ Hid (SameH f fr)) (fun v _ => n - (intOf v).toNat)
    case atStart => exact ⟨0, _, _, by omega, rfl, HP0, Lib.hid SameH.none_⟩
    case round =>
      obtain ⟨j, f, fr, hj, rfl, HH, HS⟩ := hrel
      obtain ⟨wa, rfl⟩ : ∃ x, x = wr := ⟨_, rfl⟩
      by_cases hlt : j < n
      case neg =>
        obtain rfl : j = n := by omega
        go_wp2_with fail
        go_ret
        exact ⟨rfl, HH.out.ext⟩
      have hlt' : (j : Int) < (n : Int) := by omega
      obtain ⟨g, o, a, hA, hg, ha, hcell⟩ := HL.out.1.at_ hlt
      have hok := HL.out.2 a (List.mem_of_getElem? ha)
      have HK : Hid (w.cell? ⟨g, o + j * 3 + 1, none⟩ = some (.int .i64 a.k) ∧ w.cell? ⟨g, o + j * 3 + 2, none⟩ = some (.slice a.A a.n a.c)) := Lib.hid ⟨hcell 1 _ rfl, hcell 2 _ rfl⟩
      have c0 : wa.cell? ⟨g, o + j * 3, none⟩ = some (.bool a.lose) := ext_of_cell HH.out.ext (hcell 0 _ rfl)
      have c1 : wa.cell? ⟨g, o + j * 3 + 1, none⟩ = some (.int .i64 a.k) := ext_of_cell HH.out.ext HK.out.1
      have c2 : wa.cell? ⟨g, o + j * 3 + 2, none⟩ = some (.slice a.A a.n a.c) := ext_of_cell HH.out.ext HK.out.2
      have hkwf := hok.k
      have HBA : Hid (By w a.A a.n a.c a.l) := Lib.hid hok.byt
      subst hA
      obtain ⟨lose, k, aA, an, ac, al⟩ := a
      clear hcell hok ha
      dsimp only at HK c0 c1 c2 hkwf HBA
      have han63 : an ≤ 9223372036854775807 := Nat.le_trans HBA.out.cap HBA.out.most
      by_cases han : an ≤ 200
      case neg =>
        have han : (200 : Int) < (an : Int) := by omega
        go_wp2_with fail
        go_ret
        exact ⟨rfl, HH.out.ext⟩
      have han' : (an : Int) ≤ 200 := by omega
      cases lose with
      | true =>
        have HQ : Hid (HP w wa.drew h cn bm y gt gl j f fr) := Lib.hid (HH.out.keep (Ext.refl wa).drew)
        have hS : wa.drew.cell? ⟨g, o + j * 3 + 1, none⟩ = some (.int .i64 k) := c1
        cases hin : inZ 0 k ((cn : Int) - 1) with
        | true =>
          obtain ⟨q, rfl⟩ : ∃ q : Nat, k = (q : Int) := ⟨k.toNat, by have := inZ_iff.1 hin; omega⟩
          have hq : q < cn := by have := inZ_iff.1 hin; omega
          have HIN := Lib.hid hin
          clear hin
          go_upto_region 13 with (fail)
          go_region_held3 (fun w' => w'.cell? ⟨g, o + j * 3 + 1, none⟩ = some (.int .i64 (q : Int)))
            (with_reducible exact hS)
            (first
              | (go_at_call 11; ((with_reducible refine (hp_lose HQ.out (q : Int) HIN.out).mono ?_); rintro e' w3 ⟨rfl, hq3⟩; have HQ := Lib.hid hq3; have hS := ext_of_cell HQ.out.ext HK.out.1; clear hq3))
              | (go_at_call 12; ((with_reducible refine (hp_rlose HQ.out q hq).mono ?_); rintro e' w3 ⟨rfl, hq3⟩; have HQ := Lib.hid hq3; have hS := ext_of_cell HQ.out.ext HK.out.1; clear hq3)))
          all_goals
            obtain ⟨f2, fr2, HQ1, HS1⟩ : ∃ f2 fr2, Hid (HP w w3 h cn bm y gt gl (j + 1) f2 fr2) ∧ Hid (SameH f2 fr2) := ⟨_, _, Lib.hid (HQ.out.more (Nat.le_succ _)), Lib.hid (HS.out.upd _ _ _ rfl)⟩
            have c1 : w3.cell? ⟨g, o + j * 3 + 1, none⟩ = some (.int .i64 (q : Int)) := ext_of_cell HQ1.out.ext HK.out.1
            have HGET := Lib.hid (HQ1.out.z.choose_spec.2)
            have HGET := Lib.hid (zget_own HGET.out (q : Int) hkwf)
            go_wp2_with fail
            refine HGET.out.mono ?_
            rintro e w5 ⟨A5, n5, c5, rfl, hby5, _, hx5, hown5⟩
            have HQ5 := Lib.hid (HQ1.out.keep hx5)
            have HX5 : Hid (Ext w3 w5) := Lib.hid hx5
            have HB5 := Lib.hid hby5
            have HW5 := Lib.hid (WrB.of_own hown5 (Bs.rd hby5).lt)
            have hn5 : n5 ≤ 9223372036854775807 := Nat.le_trans (Bs.cap hby5) (Bs.most hby5)
            have c1 : w5.cell? ⟨g, o + j * 3 + 1, none⟩ = some (.int .i64 (q : Int)) := ext_of_cell hx5 c1
            have hrg := rzget_of HQ5.out.r (q : Int)
            rw [(HS1.out.is (q : Int)).1, (HS1.out.is (q : Int)).2] at hrg
            have HRG := Lib.hid hrg
            clear hby5 hx5 hown5 hrg HGET
            generalize (f2 (q : Int)).isSome = b at *
            generalize optL (f2 (q : Int)) = lx at *
            go_wp2_with fail
            refine HRG.out.mono ?_
            rintro e w6 ⟨A6, n6, c6, rfl, hby6, hx6⟩
            have HQ6 := Lib.hid (HQ5.out.keep hx6)
            have HX6 : Hid (Ext w3 w6) := Lib.hid (HX5.out.trans hx6)
            have HS6 := Lib.hid (And.intro (HB5.out.ext hx6) hby6)
            have HW6 := Lib.hid (HW5.out.ext hx6)
            have HWH := Lib.hid (zwhole_own HQ6.out.z.choose_spec.2)
            clear hby6 hx6 HB5 HW5 HX5 HQ5 HRG c1
            go_wp2_with fail
            refine HWH.out.mono ?_
            rintro e w7 ⟨A7, n7, c7, rfl, hby7, _, hx7, hown7⟩
            have HQ7 := Lib.hid (HQ6.out.keep hx7)
            have HX7 : Hid (Ext w3 w7) := Lib.hid (HX6.out.trans hx7)
            have HS7 := Lib.hid (And.intro (HS6.out.1.ext hx7) (HS6.out.2.ext hx7))
            have HW7 := Lib.hid (And.intro (HW6.out.ext hx7) ((WrB.of_own hown7 (Bs.rd hby7).lt).more (Ext.size HX6.out)))
            have HB7 := Lib.hid hby7
            have hn7 : n7 ≤ 9223372036854775807 := Nat.le_trans (Bs.cap hby7) (Bs.most hby7)
            have hrw := rzwhole_of HQ7.out.r
            rw [(HS1.out.all cn).2.1, (HS1.out.all cn).2.2] at hrw
            have HRW := Lib.hid hrw
            clear hby7 hx7 hown7 hrw HWH HS6 HW6 HX6 HQ6
            generalize whE f2 cn = er at *
            generalize whL f2 cn = lw at *
            go_wp2_with fail
            refine HRW.out.mono ?_
            rintro e w8 ⟨A8, n8, c8, rfl, hby8, hx8⟩
            have HQ8 := Lib.hid (HQ7.out.keep hx8)
            have HX8 : Hid (Ext w3 w8) := Lib.hid (HX7.out.trans hx8)
            have hs := same_by A5 A6 lx lx n5 n6 c5 c6 w8 (HS7.out.1.ext hx8) (HS7.out.2.ext hx8)
            rw [decide_eq_true rfl] at hs
            have HSA := Lib.hid hs
            have HS8 := Lib.hid (And.intro (HB7.out.ext hx8) hby8)
            have HW8 := Lib.hid (And.intro (HW7.out.1.ext hx8) (HW7.out.2.ext hx8))
            have hbb : (b != b) = false := by simp
            have hee : (er != er) = false := by simp
            clear hs hby8 hx8 HS7 HW7 HX7 HQ7 HB7 HRW
            go_wp2_with fail
            refine HSA.out.mono ?_
            rintro e w9 ⟨rfl, hx9⟩
            have HQ9 := Lib.hid (HQ8.out.keep hx9)
            have HX9 : Hid (Ext w3 w9) := Lib.hid (HX8.out.trans hx9)
            have hs := same_by A7 A8 lw lw n7 n8 c7 c8 w9 (HS8.out.1.ext hx9) (HS8.out.2.ext hx9)
            rw [decide_eq_true rfl] at hs
            have HSA := Lib.hid hs
            have HW9 := Lib.hid (And.intro (HW8.out.1.ext hx9) (HW8.out.2.ext hx9))
            clear hs hx9 HS8 HW8 HX8 HQ8
            go_wp2_with fail
            refine HSA.out.mono ?_
            rintro e w10 ⟨rfl, hx10⟩
            have HQ10 := Lib.hid (HQ9.out.keep hx10)
            have HX10 : Hid (Ext w3 w10) := Lib.hid (HX9.out.trans hx10)
            have HW10 := Lib.hid (And.intro (HW9.out.1.ext hx10) (HW9.out.2.ext hx10))
            have HMI := Lib.hid (zmissing_yes HQ10.out.z.choose_spec.2)
            have HML : Hid ((missZ f2 cn).length ≤ 100) := Lib.hid (by have := missZ_len f2 cn; omega)
            clear hx10 HSA HW9 HX9 HQ9
            go_wp2_with fail
            refine HMI.out.mono ?_
            rintro e w11 ⟨A11, c11, rfl, hrow, hx11⟩
            have HQ11 := Lib.hid (HQ10.out.keep hx11)
            have HX11 : Hid (Ext w3 w11) := Lib.hid (HX10.out.trans hx11)
            have HW11 := Lib.hid (And.intro (HW10.out.1.ext hx11) (HW10.out.2.ext hx11))
            have HRO := Lib.hid (RowN.of_own hrow)
            have hmr := rzmissing_of HQ11.out.r
            rw [(HS1.out.all cn).1] at hmr
            have HMR := Lib.hid hmr
            clear hx11 hrow hmr HMI HW10 HX10 HQ10
            go_wp2_with fail
            refine HMR.out.mono ?_
            rintro e w12 ⟨A12, c12, rfl, hrow, hx12⟩
            have HX12 : Hid (Ext w3 w12) := Lib.hid (HX11.out.trans hx12)
            have HW12 := Lib.hid (And.intro (HW11.out.1.ext hx12) (HW11.out.2.ext hx12))
            have HIT := Lib.hid (rints_of A11 A12 c11 c12 (missZ f2 cn) HML.out (HRO.out.ext hx12) (RowN.of_own hrow))
            clear hx12 hrow HMR HW11 HX11 HQ11 HRO HML
            go_wp2_with fail
            refine HIT.out.mono ?_
            rintro e w13 ⟨rfl, hx13⟩
            have HX13 : Hid (Ext w3 w13) := Lib.hid (HX12.out.trans hx13)
            have HW13 := Lib.hid (And.intro (HW12.out.1.ext hx13) (HW12.out.2.ext hx13))
            clear hx13 HIT HW12 HX12
            go_wp2_with fail
            go_loopw [20] (fun v w14 => ∃ i : Nat, i ≤ n5 ∧ v = .int .i64 (i : Int) ∧ Hid (WrB w14 w3.heap.size A5 n5 ∧ WrB w14 w3.heap.size A7 n7) ∧ Hid (Ext w3 w14)) (fun v _ => n5 - (intOf v).toNat)
            case atStart => exact ⟨0, by omega, rfl, HW13, HX13⟩
            case round =>
              obtain ⟨i5, hi5, rfl, HW, HX⟩ := hrel
              by_cases hia : i5 < n5
              · obtain ⟨q2, x, hqA, hqB, hx256, hcell, hfr⟩ := HW.out.1 i5 hia
                subst hqA
                have hia' : (i5 : Int) < (n5 : Int) := by omega
                have hy : ((x : Int) + 1) % 256 = (((x + 1) % 256 : Nat) : Int) := by omega
                have HWS := Lib.hid (And.intro (HW.out.1.set (g := q2) (k := i5) (y := (x + 1) % 256) (Nat.mod_lt _ (by omega)) (by rw [hcell]; rfl)) (HW.out.2.set (g := q2) (k := i5) (y := (x + 1) % 256) (Nat.mod_lt _ (by omega)) (by rw [hcell]; rfl)))
                have HXS := Lib.hid (ext_setZ (k := i5) HX.out hqB (.int .u8 (((x + 1) % 256 : Nat) : Int)))
                have HY := Lib.hid hy
                clear hy
                go_wp2_with fail
                go_roundw
                case rel => exact ⟨i5 + 1, by omega, by go_num, by rw [HY.out]; exact HWS, by rw [HY.out]; exact HXS⟩
                case measure => simp [intOf]; omega
              · obtain rfl : i5 = n5 := by omega
                go_wp2_with fail
                go_loopw [21] (fun v w14 => ∃ i : Nat, i ≤ n7 ∧ v = .int .i64 (i : Int) ∧ Hid (WrB w14 w3.heap.size A7 n7) ∧ Hid (Ext w3 w14)) (fun v _ => n7 - (intOf v).toNat)
                case atStart => exact ⟨0, by omega, rfl, Lib.hid HW.out.2, HX⟩
                case round =>
                  obtain ⟨i7, hi7, rfl, HW, HX⟩ := hrel
                  by_cases hia : i7 < n7
                  · obtain ⟨q2, x, hqA, hqB, hx256, hcell, hfr⟩ := HW.out i7 hia
                    subst hqA
                    have hia' : (i7 : Int) < (n7 : Int) := by omega
                    have hy : ((x : Int) + 1) % 256 = (((x + 1) % 256 : Nat) : Int) := by omega
                    have HWS := Lib.hid (HW.out.set (g := q2) (k := i7) (y := (x + 1) % 256) (Nat.mod_lt _ (by omega)) (by rw [hcell]; rfl))
                    have HXS := Lib.hid (ext_setZ (k := i7) HX.out hqB (.int .u8 (((x + 1) % 256 : Nat) : Int)))
                    have HY := Lib.hid hy
                    clear hy
                    go_wp2_with fail
                    go_roundw
                    case rel => exact ⟨i7 + 1, by omega, by go_num, by rw [HY.out]; exact HWS, by rw [HY.out]; exact HXS⟩
                    case measure => simp [intOf]; omega
                  · obtain rfl : i7 = n7 := by omega
                    go_wp2_with fail
                    go_roundw
                    case rel => exact ⟨j + 1, f2, fr2, by omega, by go_num, Lib.hid (HQ1.out.keep HX.out), HS1⟩
                    case measure => simp [intOf]; omega
        | false =>
          have HIN := Lib.hid hin
          clear hin
          go_upto_region 13 with (fail)
          go_region_held3 (fun w' => w'.cell? ⟨g, o + j * 3 + 1, none⟩ = some (.int .i64 k))
            (with_reducible exact hS)
            (first
              | (go_at_call 11; ((with_reducible refine (hp_lose_no HQ.out k HIN.out).mono ?_); rintro e' w3 ⟨rfl, hq3⟩; have HQ := Lib.hid hq3; have hS := ext_of_cell HQ.out.ext HK.out.1; clear hq3))
              | (go_at_call 12; ((with_reducible refine (hp_rlose_no HQ.out k HIN.out).mono ?_); rintro e' w3 ⟨rfl, hq3⟩; have HQ := Lib.hid hq3; have hS := ext_of_cell HQ.out.ext HK.out.1; clear hq3)))
          all_goals
            obtain ⟨f2, fr2, HQ1, HS1⟩ : ∃ f2 fr2, Hid (HP w w3 h cn bm y gt gl (j + 1) f2 fr2) ∧ Hid (SameH f2 fr2) := ⟨_, _, Lib.hid (HQ.out.more (Nat.le_succ _)), HS⟩
            have c1 : w3.cell? ⟨g, o + j * 3 + 1, none⟩ = some (.int .i64 k) := ext_of_cell HQ1.out.ext HK.out.1
            have HGET := Lib.hid (HQ1.out.z.choose_spec.2)
            have HGET := Lib.hid (zget_own HGET.out k hkwf)
            go_wp2_with fail
            refine HGET.out.mono ?_
            rintro e w5 ⟨A5, n5, c5, rfl, hby5, _, hx5, hown5⟩
            have HQ5 := Lib.hid (HQ1.out.keep hx5)
            have HX5 : Hid (Ext w3 w5) := Lib.hid hx5
            have HB5 := Lib.hid hby5
            have HW5 := Lib.hid (WrB.of_own hown5 (Bs.rd hby5).lt)
            have hn5 : n5 ≤ 9223372036854775807 := Nat.le_trans (Bs.cap hby5) (Bs.most hby5)
            have c1 : w5.cell? ⟨g, o + j * 3 + 1, none⟩ = some (.int .i64 k) := ext_of_cell hx5 c1
            have hrg := rzget_of HQ5.out.r k
            rw [(HS1.out.is k).1, (HS1.out.is k).2] at hrg
            have HRG := Lib.hid hrg
            clear hby5 hx5 hown5 hrg HGET
            generalize (f2 k).isSome = b at *
            generalize optL (f2 k) = lx at *
            go_wp2_with fail
            refine HRG.out.mono ?_
            rintro e w6 ⟨A6, n6, c6, rfl, hby6, hx6⟩
            have HQ6 := Lib.hid (HQ5.out.keep hx6)
            have HX6 : Hid (Ext w3 w6) := Lib.hid (HX5.out.trans hx6)
            have HS6 := Lib.hid (And.intro (HB5.out.ext hx6) hby6)
            have HW6 := Lib.hid (HW5.out.ext hx6)
            have HWH := Lib.hid (zwhole_own HQ6.out.z.choose_spec.2)
            clear hby6 hx6 HB5 HW5 HX5 HQ5 HRG c1
            go_wp2_with fail
            refine HWH.out.mono ?_
            rintro e w7 ⟨A7, n7, c7, rfl, hby7, _, hx7, hown7⟩
            have HQ7 := Lib.hid (HQ6.out.keep hx7)
            have HX7 : Hid (Ext w3 w7) := Lib.hid (HX6.out.trans hx7)
            have HS7 := Lib.hid (And.intro (HS6.out.1.ext hx7) (HS6.out.2.ext hx7))
            have HW7 := Lib.hid (And.intro (HW6.out.ext hx7) ((WrB.of_own hown7 (Bs.rd hby7).lt).more (Ext.size HX6.out)))
            have HB7 := Lib.hid hby7
            have hn7 : n7 ≤ 9223372036854775807 := Nat.le_trans (Bs.cap hby7) (Bs.most hby7)
            have hrw := rzwhole_of HQ7.out.r
            rw [(HS1.out.all cn).2.1, (HS1.out.all cn).2.2] at hrw
            have HRW := Lib.hid hrw
            clear hby7 hx7 hown7 hrw HWH HS6 HW6 HX6 HQ6
            generalize whE f2 cn = er at *
            generalize whL f2 cn = lw at *
            go_wp2_with fail
            refine HRW.out.mono ?_
            rintro e w8 ⟨A8, n8, c8, rfl, hby8, hx8⟩
            have HQ8 := Lib.hid (HQ7.out.keep hx8)
            have HX8 : Hid (Ext w3 w8) := Lib.hid (HX7.out.trans hx8)
            have hs := same_by A5 A6 lx lx n5 n6 c5 c6 w8 (HS7.out.1.ext hx8) (HS7.out.2.ext hx8)
            rw [decide_eq_true rfl] at hs
            have HSA := Lib.hid hs
            have HS8 := Lib.hid (And.intro (HB7.out.ext hx8) hby8)
            have HW8 := Lib.hid (And.intro (HW7.out.1.ext hx8) (HW7.out.2.ext hx8))
            have hbb : (b != b) = false := by simp
            have hee : (er != er) = false := by simp
            clear hs hby8 hx8 HS7 HW7 HX7 HQ7 HB7 HRW
            go_wp2_with fail
            refine HSA.out.mono ?_
            rintro e w9 ⟨rfl, hx9⟩
            have HQ9 := Lib.hid (HQ8.out.keep hx9)
            have HX9 : Hid (Ext w3 w9) := Lib.hid (HX8.out.trans hx9)
            have hs := same_by A7 A8 lw lw n7 n8 c7 c8 w9 (HS8.out.1.ext hx9) (HS8.out.2.ext hx9)
            rw [decide_eq_true rfl] at hs
            have HSA := Lib.hid hs
            have HW9 := Lib.hid (And.intro (HW8.out.1.ext hx9) (HW8.out.2.ext hx9))
            clear hs hx9 HS8 HW8 HX8 HQ8
            go_wp2_with fail
            refine HSA.out.mono ?_
            rintro e w10 ⟨rfl, hx10⟩
            have HQ10 := Lib.hid (HQ9.out.keep hx10)
            have HX10 : Hid (Ext w3 w10) := Lib.hid (HX9.out.trans hx10)
            have HW10 := Lib.hid (And.intro (HW9.out.1.ext hx10) (HW9.out.2.ext hx10))
            have HMI := Lib.hid (zmissing_yes HQ10.out.z.choose_spec.2)
            have HML : Hid ((missZ f2 cn).length ≤ 100) := Lib.hid (by have := missZ_len f2 cn; omega)
            clear hx10 HSA HW9 HX9 HQ9
            go_wp2_with fail
            refine HMI.out.mono ?_
            rintro e w11 ⟨A11, c11, rfl, hrow, hx11⟩
            have HQ11 := Lib.hid (HQ10.out.keep hx11)
            have HX11 : Hid (Ext w3 w11) := Lib.hid (HX10.out.trans hx11)
            have HW11 := Lib.hid (And.intro (HW10.out.1.ext hx11) (HW10.out.2.ext hx11))
            have HRO := Lib.hid (RowN.of_own hrow)
            have hmr := rzmissing_of HQ11.out.r
            rw [(HS1.out.all cn).1] at hmr
            have HMR := Lib.hid hmr
            clear hx11 hrow hmr HMI HW10 HX10 HQ10
            go_wp2_with fail
            refine HMR.out.mono ?_
            rintro e w12 ⟨A12, c12, rfl, hrow, hx12⟩
            have HX12 : Hid (Ext w3 w12) := Lib.hid (HX11.out.trans hx12)
            have HW12 := Lib.hid (And.intro (HW11.out.1.ext hx12) (HW11.out.2.ext hx12))
            have HIT := Lib.hid (rints_of A11 A12 c11 c12 (missZ f2 cn) HML.out (HRO.out.ext hx12) (RowN.of_own hrow))
            clear hx12 hrow HMR HW11 HX11 HQ11 HRO HML
            go_wp2_with fail
            refine HIT.out.mono ?_
            rintro e w13 ⟨rfl, hx13⟩
            have HX13 : Hid (Ext w3 w13) := Lib.hid (HX12.out.trans hx13)
            have HW13 := Lib.hid (And.intro (HW12.out.1.ext hx13) (HW12.out.2.ext hx13))
            clear hx13 HIT HW12 HX12
            go_wp2_with fail
            go_loopw [20] (fun v w14 => ∃ i : Nat, i ≤ n5 ∧ v = .int .i64 (i : Int) ∧ Hid (WrB w14 w3.heap.size A5 n5 ∧ WrB w14 w3.heap.size A7 n7) ∧ Hid (Ext w3 w14)) (fun v _ => n5 - (intOf v).toNat)
            case atStart => exact ⟨0, by omega, rfl, HW13, HX13⟩
            case round =>
              obtain ⟨i5, hi5, rfl, HW, HX⟩ := hrel
              by_cases hia : i5 < n5
              · obtain ⟨q2, x, hqA, hqB, hx256, hcell, hfr⟩ := HW.out.1 i5 hia
                subst hqA
                have hia' : (i5 : Int) < (n5 : Int) := by omega
                have hy : ((x : Int) + 1) % 256 = (((x + 1) % 256 : Nat) : Int) := by omega
                have HWS := Lib.hid (And.intro (HW.out.1.set (g := q2) (k := i5) (y := (x + 1) % 256) (Nat.mod_lt _ (by omega)) (by rw [hcell]; rfl)) (HW.out.2.set (g := q2) (k := i5) (y := (x + 1) % 256) (Nat.mod_lt _ (by omega)) (by rw [hcell]; rfl)))
                have HXS := Lib.hid (ext_setZ (k := i5) HX.out hqB (.int .u8 (((x + 1) % 256 : Nat) : Int)))
                have HY := Lib.hid hy
                clear hy
                go_wp2_with fail
                go_roundw
                case rel => exact ⟨i5 + 1, by omega, by go_num, by rw [HY.out]; exact HWS, by rw [HY.out]; exact HXS⟩
                case measure => simp [intOf]; omega
              · obtain rfl : i5 = n5 := by omega
                go_wp2_with fail
                go_loopw [21] (fun v w14 => ∃ i : Nat, i ≤ n7 ∧ v = .int .i64 (i : Int) ∧ Hid (WrB w14 w3.heap.size A7 n7) ∧ Hid (Ext w3 w14)) (fun v _ => n7 - (intOf v).toNat)
                case atStart => exact ⟨0, by omega, rfl, Lib.hid HW.out.2, HX⟩
                case round =>
                  obtain ⟨i7, hi7, rfl, HW, HX⟩ := hrel
                  by_cases hia : i7 < n7
                  · obtain ⟨q2, x, hqA, hqB, hx256, hcell, hfr⟩ := HW.out i7 hia
                    subst hqA
                    have hia' : (i7 : Int) < (n7 : Int) := by omega
                    have hy : ((x : Int) + 1) % 256 = (((x + 1) % 256 : Nat) : Int) := by omega
                    have HWS := Lib.hid (HW.out.set (g := q2) (k := i7) (y := (x + 1) % 256) (Nat.mod_lt _ (by omega)) (by rw [hcell]; rfl))
                    have HXS := Lib.hid (ext_setZ (k := i7) HX.out hqB (.int .u8 (((x + 1) % 256 : Nat) : Int)))
                    have HY := Lib.hid hy
                    clear hy
                    go_wp2_with fail
                    go_roundw
                    case rel => exact ⟨i7 + 1, by omega, by go_num, by rw [HY.out]; exact HWS, by rw [HY.out]; exact HXS⟩
                    case measure => simp [intOf]; omega
                  · obtain rfl : i7 = n7 := by omega
                    go_wp2_with fail
                    go_roundw
                    case rel => exact ⟨j + 1, f2, fr2, by omega, by go_num, Lib.hid (HQ1.out.keep HX.out), HS1⟩
                    case measure => simp [intOf]; omega
      | false =>
        go_wp2_with fail
        refine (copy_by aA al an ac wa (HBA.out.ext HH.out.ext) (by omega)).mono ?_
        rintro e w1 ⟨A', c', rfl, hby, hx, hown⟩
        have hqs : PutS w w1.drew h cn bm y gt gl j f fr wa.heap.size w1.heap.size A' an c' al := ⟨HH.out.keep hx.drew, ownsRow_ext hown (Ext.refl w1).drew, HBA.out.rd.lt, Nat.le_refl _, HH.out.lt⟩
        have HQ := Lib.hid hqs
        have HFR := Lib.hid (own_fresh hown)
        have c1 : w1.cell? ⟨g, o + j * 3 + 1, none⟩ = some (.int .i64 k) := ext_of_cell hx c1
        have c2 : w1.cell? ⟨g, o + j * 3 + 2, none⟩ = some (.slice aA an ac) := ext_of_cell hx c2
        have hS : w1.drew.cell? ⟨g, o + j * 3 + 1, none⟩ = some (.int .i64 k) ∧ w1.drew.cell? ⟨g, o + j * 3 + 2, none⟩ = some (.slice aA an ac) := ⟨c1, c2⟩
        clear hby hx hown hqs
        cases hfit : fitsZ k cn an with
        | true =>
          have hm1000 : j ≤ 1000 := by omega
          obtain ⟨q, rfl⟩ : ∃ q : Nat, k = (q : Int) := ⟨k.toNat, by have := fitsZ_iff.1 hfit; omega⟩
          have HIN := Lib.hid hfit
          clear hfit
          go_upto_region 16 with (fail)
          go_region_held3 (fun w' => w'.cell? ⟨g, o + j * 3 + 1, none⟩ = some (.int .i64 (q : Int)) ∧ w'.cell? ⟨g, o + j * 3 + 2, none⟩ = some (.slice aA an ac))
            (with_reducible exact hS)
            (first
              | (go_at_call 14; ((with_reducible refine (hp_put HQ.out hm1000 (q : Int) HIN.out).mono ?_); rintro e' w3 ⟨rfl, a1, ha1, hq3, hf3⟩; have HQ := Lib.hid hq3; have HA1 := Lib.hid (And.intro ha1 hf3); have hS := And.intro (ext_of_cell HQ.out.hp.ext HK.out.1) (ext_of_cell HQ.out.hp.ext HK.out.2); clear hq3 ha1 hf3))
              | (go_at_call 15; ((with_reducible refine (hp_rput HQ.out q aA ac (By.ext HBA.out HQ.out.hp.ext) HIN.out).mono ?_); rintro e' w3 ⟨rfl, b1, hb1, hq3, hf3⟩; have HQ := Lib.hid hq3; have HB1 := Lib.hid (And.intro hb1 hf3); have hS := And.intro (ext_of_cell HQ.out.hp.ext HK.out.1) (ext_of_cell HQ.out.hp.ext HK.out.2); clear hq3 hb1 hf3)))
          all_goals
            have hho : (some a1).map Lst.l = (some b1).map Lst.l := by show some a1.l = some b1.l; rw [HA1.out.1, HB1.out.1]
            obtain ⟨f2, fr2, hf2, hfr2, HQ, HS1⟩ : ∃ f2 fr2, (∀ i b, f2 i = some b → f i = some b ∨ ∀ p, b.A = some p → w1.heap.size ≤ p.block) ∧ (∀ i b, fr2 i = some b → fr i = some b ∨ ∀ p, b.A = some p → w1.heap.size ≤ p.block) ∧ Hid (PutS w w3 h cn bm y gt gl (j + 1) f2 fr2 wa.heap.size w1.heap.size A' an c' al) ∧ Hid (SameH f2 fr2) := ⟨_, _, upd_old HA1.out.2, upd_old HB1.out.2, HQ, Lib.hid (HS.out.upd _ _ _ hho)⟩
            have HF2 := Lib.hid (And.intro hf2 hfr2)
            have HW0 := Lib.hid (WrB.of_own HQ.out.row HQ.out.byt)
            clear hf2 hfr2 c0 c1 c2 hS
            go_wp2_with fail
            go_loopw [11] (fun v w4 => ∃ i : Nat, i ≤ an ∧ v = .int .i64 (i : Int) ∧ Hid (WrB w4 wa.heap.size A' an) ∧ Hid (Mod (fun i => ∃ p, A' = some p ∧ p.block = i ∧ wa.heap.size ≤ i) w3 w4)) (fun v _ => an - (intOf v).toNat)
            case atStart => exact ⟨0, by omega, rfl, HW0, Lib.hid (Mod.refl _ _)⟩
            case round =>
              obtain ⟨i, hi, rfl, HW, HM⟩ := hrel
              by_cases hia : i < an
              · obtain ⟨q2, x, hqA, hqB, hx256, hcell, hfr⟩ := HW.out i hia
                subst hqA
                have hia' : (i : Int) < (an : Int) := by omega
                have hy : ((x : Int) + 1) % 256 = (((x + 1) % 256 : Nat) : Int) := by omega
                have HWS := Lib.hid (HW.out.set (g := q2) (k := i) (y := (x + 1) % 256) (Nat.mod_lt _ (by omega)) (by rw [hcell]; rfl))
                have HMS := Lib.hid (HM.out.setCell (p := ⟨q2, i, none⟩) (.inl ⟨_, rfl, rfl, hqB⟩) (.int .u8 (((x + 1) % 256 : Nat) : Int)))
                have HY := Lib.hid hy
                clear hy
                go_wp2_with fail
                go_roundw
                case rel => exact ⟨i + 1, by omega, by go_num, by rw [HY.out]; exact HWS, by rw [HY.out]; exact HMS⟩
                case measure => simp [intOf]; omega
              · obtain rfl : i = an := by omega
                have HQ1 : Hid (HP w wr h cn bm y gt gl (j + 1) f2 fr2) := Lib.hid (HP.write HH.out HQ.out (k := 0) HF2.out.1 HF2.out.2 (fun p hp => (HFR.out p hp).2) HM.out)
                clear HM HW HQ HF2
                obtain ⟨wt, rfl⟩ : ∃ x, x = wr := ⟨_, rfl⟩
                have c1 : wt.cell? ⟨g, o + j * 3 + 1, none⟩ = some (.int .i64 (q : Int)) := ext_of_cell HQ1.out.ext HK.out.1
                have HGET := Lib.hid (HQ1.out.z.choose_spec.2)
                have HGET := Lib.hid (zget_own HGET.out (q : Int) hkwf)
                go_wp2_with fail
                refine HGET.out.mono ?_
                rintro e w5 ⟨A5, n5, c5, rfl, hby5, _, hx5, hown5⟩
                have HQ5 := Lib.hid (HQ1.out.keep hx5)
                have HX5 : Hid (Ext wt w5) := Lib.hid hx5
                have HB5 := Lib.hid hby5
                have HW5 := Lib.hid (WrB.of_own hown5 (Bs.rd hby5).lt)
                have hn5 : n5 ≤ 9223372036854775807 := Nat.le_trans (Bs.cap hby5) (Bs.most hby5)
                have c1 : w5.cell? ⟨g, o + j * 3 + 1, none⟩ = some (.int .i64 (q : Int)) := ext_of_cell hx5 c1
                have hrg := rzget_of HQ5.out.r (q : Int)
                rw [(HS1.out.is (q : Int)).1, (HS1.out.is (q : Int)).2] at hrg
                have HRG := Lib.hid hrg
                clear hby5 hx5 hown5 hrg HGET
                generalize (f2 (q : Int)).isSome = b at *
                generalize optL (f2 (q : Int)) = lx at *
                go_wp2_with fail
                refine HRG.out.mono ?_
                rintro e w6 ⟨A6, n6, c6, rfl, hby6, hx6⟩
                have HQ6 := Lib.hid (HQ5.out.keep hx6)
                have HX6 : Hid (Ext wt w6) := Lib.hid (HX5.out.trans hx6)
                have HS6 := Lib.hid (And.intro (HB5.out.ext hx6) hby6)
                have HW6 := Lib.hid (HW5.out.ext hx6)
                have HWH := Lib.hid (zwhole_own HQ6.out.z.choose_spec.2)
                clear hby6 hx6 HB5 HW5 HX5 HQ5 HRG c1
                go_wp2_with fail
                refine HWH.out.mono ?_
                rintro e w7 ⟨A7, n7, c7, rfl, hby7, _, hx7, hown7⟩
                have HQ7 := Lib.hid (HQ6.out.keep hx7)
                have HX7 : Hid (Ext wt w7) := Lib.hid (HX6.out.trans hx7)
                have HS7 := Lib.hid (And.intro (HS6.out.1.ext hx7) (HS6.out.2.ext hx7))
                have HW7 := Lib.hid (And.intro (HW6.out.ext hx7) ((WrB.of_own hown7 (Bs.rd hby7).lt).more (Ext.size HX6.out)))
                have HB7 := Lib.hid hby7
                have hn7 : n7 ≤ 9223372036854775807 := Nat.le_trans (Bs.cap hby7) (Bs.most hby7)
                have hrw := rzwhole_of HQ7.out.r
                rw [(HS1.out.all cn).2.1, (HS1.out.all cn).2.2] at hrw
                have HRW := Lib.hid hrw
                clear hby7 hx7 hown7 hrw HWH HS6 HW6 HX6 HQ6
                generalize whE f2 cn = er at *
                generalize whL f2 cn = lw at *
                go_wp2_with fail
                refine HRW.out.mono ?_
                rintro e w8 ⟨A8, n8, c8, rfl, hby8, hx8⟩
                have HQ8 := Lib.hid (HQ7.out.keep hx8)
                have HX8 : Hid (Ext wt w8) := Lib.hid (HX7.out.trans hx8)
                have hs := same_by A5 A6 lx lx n5 n6 c5 c6 w8 (HS7.out.1.ext hx8) (HS7.out.2.ext hx8)
                rw [decide_eq_true rfl] at hs
                have HSA := Lib.hid hs
                have HS8 := Lib.hid (And.intro (HB7.out.ext hx8) hby8)
                have HW8 := Lib.hid (And.intro (HW7.out.1.ext hx8) (HW7.out.2.ext hx8))
                have hbb : (b != b) = false := by simp
                have hee : (er != er) = false := by simp
                clear hs hby8 hx8 HS7 HW7 HX7 HQ7 HB7 HRW
                go_wp2_with fail
                refine HSA.out.mono ?_
                rintro e w9 ⟨rfl, hx9⟩
                have HQ9 := Lib.hid (HQ8.out.keep hx9)
                have HX9 : Hid (Ext wt w9) := Lib.hid (HX8.out.trans hx9)
                have hs := same_by A7 A8 lw lw n7 n8 c7 c8 w9 (HS8.out.1.ext hx9) (HS8.out.2.ext hx9)
                rw [decide_eq_true rfl] at hs
                have HSA := Lib.hid hs
                have HW9 := Lib.hid (And.intro (HW8.out.1.ext hx9) (HW8.out.2.ext hx9))
                clear hs hx9 HS8 HW8 HX8 HQ8
                go_wp2_with fail
                refine HSA.out.mono ?_
                rintro e w10 ⟨rfl, hx10⟩
                have HQ10 := Lib.hid (HQ9.out.keep hx10)
                have HX10 : Hid (Ext wt w10) := Lib.hid (HX9.out.trans hx10)
                have HW10 := Lib.hid (And.intro (HW9.out.1.ext hx10) (HW9.out.2.ext hx10))
                have HMI := Lib.hid (zmissing_yes HQ10.out.z.choose_spec.2)
                have HML : Hid ((missZ f2 cn).length ≤ 100) := Lib.hid (by have := missZ_len f2 cn; omega)
                clear hx10 HSA HW9 HX9 HQ9
                go_wp2_with fail
                refine HMI.out.mono ?_
                rintro e w11 ⟨A11, c11, rfl, hrow, hx11⟩
                have HQ11 := Lib.hid (HQ10.out.keep hx11)
                have HX11 : Hid (Ext wt w11) := Lib.hid (HX10.out.trans hx11)
                have HW11 := Lib.hid (And.intro (HW10.out.1.ext hx11) (HW10.out.2.ext hx11))
                have HRO := Lib.hid (RowN.of_own hrow)
                have hmr := rzmissing_of HQ11.out.r
                rw [(HS1.out.all cn).1] at hmr
                have HMR := Lib.hid hmr
                clear hx11 hrow hmr HMI HW10 HX10 HQ10
                go_wp2_with fail
                refine HMR.out.mono ?_
                rintro e w12 ⟨A12, c12, rfl, hrow, hx12⟩
                have HX12 : Hid (Ext wt w12) := Lib.hid (HX11.out.trans hx12)
                have HW12 := Lib.hid (And.intro (HW11.out.1.ext hx12) (HW11.out.2.ext hx12))
                have HIT := Lib.hid (rints_of A11 A12 c11 c12 (missZ f2 cn) HML.out (HRO.out.ext hx12) (RowN.of_own hrow))
                clear hx12 hrow HMR HW11 HX11 HQ11 HRO HML
                go_wp2_with fail
                refine HIT.out.mono ?_
                rintro e w13 ⟨rfl, hx13⟩
                have HX13 : Hid (Ext wt w13) := Lib.hid (HX12.out.trans hx13)
                have HW13 := Lib.hid (And.intro (HW12.out.1.ext hx13) (HW12.out.2.ext hx13))
                clear hx13 HIT HW12 HX12
                go_wp2_with fail
                go_loopw [20] (fun v w14 => ∃ i : Nat, i ≤ n5 ∧ v = .int .i64 (i : Int) ∧ Hid (WrB w14 wt.heap.size A5 n5 ∧ WrB w14 wt.heap.size A7 n7) ∧ Hid (Ext wt w14)) (fun v _ => n5 - (intOf v).toNat)
                case atStart => exact ⟨0, by omega, rfl, HW13, HX13⟩
                case round =>
                  obtain ⟨i5, hi5, rfl, HW, HX⟩ := hrel
                  by_cases hia : i5 < n5
                  · obtain ⟨q2, x, hqA, hqB, hx256, hcell, hfr⟩ := HW.out.1 i5 hia
                    subst hqA
                    have hia' : (i5 : Int) < (n5 : Int) := by omega
                    have hy : ((x : Int) + 1) % 256 = (((x + 1) % 256 : Nat) : Int) := by omega
                    have HWS := Lib.hid (And.intro (HW.out.1.set (g := q2) (k := i5) (y := (x + 1) % 256) (Nat.mod_lt _ (by omega)) (by rw [hcell]; rfl)) (HW.out.2.set (g := q2) (k := i5) (y := (x + 1) % 256) (Nat.mod_lt _ (by omega)) (by rw [hcell]; rfl)))
                    have HXS := Lib.hid (ext_setZ (k := i5) HX.out hqB (.int .u8 (((x + 1) % 256 : Nat) : Int)))
                    have HY := Lib.hid hy
                    clear hy
                    go_wp2_with fail
                    go_roundw
                    case rel => exact ⟨i5 + 1, by omega, by go_num, by rw [HY.out]; exact HWS, by rw [HY.out]; exact HXS⟩
                    case measure => simp [intOf]; omega
                  · obtain rfl : i5 = n5 := by omega
                    go_wp2_with fail
                    go_loopw [21] (fun v w14 => ∃ i : Nat, i ≤ n7 ∧ v = .int .i64 (i : Int) ∧ Hid (WrB w14 wt.heap.size A7 n7) ∧ Hid (Ext wt w14)) (fun v _ => n7 - (intOf v).toNat)
                    case atStart => exact ⟨0, by omega, rfl, Lib.hid HW.out.2, HX⟩
                    case round =>
                      obtain ⟨i7, hi7, rfl, HW, HX⟩ := hrel
                      by_cases hia : i7 < n7
                      · obtain ⟨q2, x, hqA, hqB, hx256, hcell, hfr⟩ := HW.out i7 hia
                        subst hqA
                        have hia' : (i7 : Int) < (n7 : Int) := by omega
                        have hy : ((x : Int) + 1) % 256 = (((x + 1) % 256 : Nat) : Int) := by omega
                        have HWS := Lib.hid (HW.out.set (g := q2) (k := i7) (y := (x + 1) % 256) (Nat.mod_lt _ (by omega)) (by rw [hcell]; rfl))
                        have HXS := Lib.hid (ext_setZ (k := i7) HX.out hqB (.int .u8 (((x + 1) % 256 : Nat) : Int)))
                        have HY := Lib.hid hy
                        clear hy
                        go_wp2_with fail
                        go_roundw
                        case rel => exact ⟨i7 + 1, by omega, by go_num, by rw [HY.out]; exact HWS, by rw [HY.out]; exact HXS⟩
                        case measure => simp [intOf]; omega
                      · obtain rfl : i7 = n7 := by omega
                        go_wp2_with fail
                        go_roundw
                        case rel => exact ⟨j + 1, f2, fr2, by omega, by go_num, Lib.hid (HQ1.out.keep HX.out), HS1⟩
                        case measure => simp [intOf]; omega
        | false =>
          have HIN := Lib.hid hfit
          clear hfit
          go_upto_region 16 with (fail)
          go_region_held3 (fun w' => w'.cell? ⟨g, o + j * 3 + 1, none⟩ = some (.int .i64 k) ∧ w'.cell? ⟨g, o + j * 3 + 2, none⟩ = some (.slice aA an ac))
            (with_reducible exact hS)
            (first
              | (go_at_call 14; ((with_reducible refine (hp_put_no HQ.out k HIN.out).mono ?_); rintro e' w3 ⟨rfl, hq3⟩; have HQ := Lib.hid hq3; have hS := And.intro (ext_of_cell HQ.out.hp.ext HK.out.1) (ext_of_cell HQ.out.hp.ext HK.out.2); clear hq3))
              | (go_at_call 15; ((with_reducible refine (hp_rput_no HQ.out k aA ac HIN.out).mono ?_); rintro e' w3 ⟨rfl, hq3⟩; have HQ := Lib.hid hq3; have hS := And.intro (ext_of_cell HQ.out.hp.ext HK.out.1) (ext_of_cell HQ.out.hp.ext HK.out.2); clear hq3)))
          all_goals
            obtain ⟨f2, fr2, hf2, hfr2, HQ, HS1⟩ : ∃ f2 fr2, (∀ i b, f2 i = some b → f i = some b ∨ ∀ p, b.A = some p → w1.heap.size ≤ p.block) ∧ (∀ i b, fr2 i = some b → fr i = some b ∨ ∀ p, b.A = some p → w1.heap.size ≤ p.block) ∧ Hid (PutS w w3 h cn bm y gt gl (j + 1) f2 fr2 wa.heap.size w1.heap.size A' an c' al) ∧ Hid (SameH f2 fr2) := ⟨_, _, fun _ _ h => .inl h, fun _ _ h => .inl h, Lib.hid (PutS.more HQ.out), HS⟩
            have HF2 := Lib.hid (And.intro hf2 hfr2)
            have HW0 := Lib.hid (WrB.of_own HQ.out.row HQ.out.byt)
            clear hf2 hfr2 c0 c1 c2 hS
            go_wp2_with fail
            go_loopw [11] (fun v w4 => ∃ i : Nat, i ≤ an ∧ v = .int .i64 (i : Int) ∧ Hid (WrB w4 wa.heap.size A' an) ∧ Hid (Mod (fun i => ∃ p, A' = some p ∧ p.block = i ∧ wa.heap.size ≤ i) w3 w4)) (fun v _ => an - (intOf v).toNat)
            case atStart => exact ⟨0, by omega, rfl, HW0, Lib.hid (Mod.refl _ _)⟩
            case round =>
              obtain ⟨i, hi, rfl, HW, HM⟩ := hrel
              by_cases hia : i < an
              · obtain ⟨q2, x, hqA, hqB, hx256, hcell, hfr⟩ := HW.out i hia
                subst hqA
                have hia' : (i : Int) < (an : Int) := by omega
                have hy : ((x : Int) + 1) % 256 = (((x + 1) % 256 : Nat) : Int) := by omega
                have HWS := Lib.hid (HW.out.set (g := q2) (k := i) (y := (x + 1) % 256) (Nat.mod_lt _ (by omega)) (by rw [hcell]; rfl))
                have HMS := Lib.hid (HM.out.setCell (p := ⟨q2, i, none⟩) (.inl ⟨_, rfl, rfl, hqB⟩) (.int .u8 (((x + 1) % 256 : Nat) : Int)))
                have HY := Lib.hid hy
                clear hy
                go_wp2_with fail
                go_roundw
                case rel => exact ⟨i + 1, by omega, by go_num, by rw [HY.out]; exact HWS, by rw [HY.out]; exact HMS⟩
                case measure => simp [intOf]; omega
              · obtain rfl : i = an := by omega
                have HQ1 : Hid (HP w wr h cn bm y gt gl (j + 1) f2 fr2) := Lib.hid (HP.write HH.out HQ.out (k := 0) HF2.out.1 HF2.out.2 (fun p hp => (HFR.out p hp).2) HM.out)
                clear HM HW HQ HF2
                obtain ⟨wt, rfl⟩ : ∃ x, x = wr := ⟨_, rfl⟩
                have c1 : wt.cell? ⟨g, o + j * 3 + 1, none⟩ = some (.int .i64 k) := ext_of_cell HQ1.out.ext HK.out.1
                have HGET := Lib.hid (HQ1.out.z.choose_spec.2)
                have HGET := Lib.hid (zget_own HGET.out k hkwf)
                go_wp2_with fail
                refine HGET.out.mono ?_
                rintro e w5 ⟨A5, n5, c5, rfl, hby5, _, hx5, hown5⟩
                have HQ5 := Lib.hid (HQ1.out.keep hx5)
                have HX5 : Hid (Ext wt w5) := Lib.hid hx5
                have HB5 := Lib.hid hby5
                have HW5 := Lib.hid (WrB.of_own hown5 (Bs.rd hby5).lt)
                have hn5 : n5 ≤ 9223372036854775807 := Nat.le_trans (Bs.cap hby5) (Bs.most hby5)
                have c1 : w5.cell? ⟨g, o + j * 3 + 1, none⟩ = some (.int .i64 k) := ext_of_cell hx5 c1
                have hrg := rzget_of HQ5.out.r k
                rw [(HS1.out.is k).1, (HS1.out.is k).2] at hrg
                have HRG := Lib.hid hrg
                clear hby5 hx5 hown5 hrg HGET
                generalize (f2 k).isSome = b at *
                generalize optL (f2 k) = lx at *
                go_wp2_with fail
                refine HRG.out.mono ?_
                rintro e w6 ⟨A6, n6, c6, rfl, hby6, hx6⟩
                have HQ6 := Lib.hid (HQ5.out.keep hx6)
                have HX6 : Hid (Ext wt w6) := Lib.hid (HX5.out.trans hx6)
                have HS6 := Lib.hid (And.intro (HB5.out.ext hx6) hby6)
                have HW6 := Lib.hid (HW5.out.ext hx6)
                have HWH := Lib.hid (zwhole_own HQ6.out.z.choose_spec.2)
                clear hby6 hx6 HB5 HW5 HX5 HQ5 HRG c1
                go_wp2_with fail
                refine HWH.out.mono ?_
                rintro e w7 ⟨A7, n7, c7, rfl, hby7, _, hx7, hown7⟩
                have HQ7 := Lib.hid (HQ6.out.keep hx7)
                have HX7 : Hid (Ext wt w7) := Lib.hid (HX6.out.trans hx7)
                have HS7 := Lib.hid (And.intro (HS6.out.1.ext hx7) (HS6.out.2.ext hx7))
                have HW7 := Lib.hid (And.intro (HW6.out.ext hx7) ((WrB.of_own hown7 (Bs.rd hby7).lt).more (Ext.size HX6.out)))
                have HB7 := Lib.hid hby7
                have hn7 : n7 ≤ 9223372036854775807 := Nat.le_trans (Bs.cap hby7) (Bs.most hby7)
                have hrw := rzwhole_of HQ7.out.r
                rw [(HS1.out.all cn).2.1, (HS1.out.all cn).2.2] at hrw
                have HRW := Lib.hid hrw
                clear hby7 hx7 hown7 hrw HWH HS6 HW6 HX6 HQ6
                generalize whE f2 cn = er at *
                generalize whL f2 cn = lw at *
                go_wp2_with fail
                refine HRW.out.mono ?_
                rintro e w8 ⟨A8, n8, c8, rfl, hby8, hx8⟩
                have HQ8 := Lib.hid (HQ7.out.keep hx8)
                have HX8 : Hid (Ext wt w8) := Lib.hid (HX7.out.trans hx8)
                have hs := same_by A5 A6 lx lx n5 n6 c5 c6 w8 (HS7.out.1.ext hx8) (HS7.out.2.ext hx8)
                rw [decide_eq_true rfl] at hs
                have HSA := Lib.hid hs
                have HS8 := Lib.hid (And.intro (HB7.out.ext hx8) hby8)
                have HW8 := Lib.hid (And.intro (HW7.out.1.ext hx8) (HW7.out.2.ext hx8))
                have hbb : (b != b) = false := by simp
                have hee : (er != er) = false := by simp
                clear hs hby8 hx8 HS7 HW7 HX7 HQ7 HB7 HRW
                go_wp2_with fail
                refine HSA.out.mono ?_
                rintro e w9 ⟨rfl, hx9⟩
                have HQ9 := Lib.hid (HQ8.out.keep hx9)
                have HX9 : Hid (Ext wt w9) := Lib.hid (HX8.out.trans hx9)
                have hs := same_by A7 A8 lw lw n7 n8 c7 c8 w9 (HS8.out.1.ext hx9) (HS8.out.2.ext hx9)
                rw [decide_eq_true rfl] at hs
                have HSA := Lib.hid hs
                have HW9 := Lib.hid (And.intro (HW8.out.1.ext hx9) (HW8.out.2.ext hx9))
                clear hs hx9 HS8 HW8 HX8 HQ8
                go_wp2_with fail
                refine HSA.out.mono ?_
                rintro e w10 ⟨rfl, hx10⟩
                have HQ10 := Lib.hid (HQ9.out.keep hx10)
                have HX10 : Hid (Ext wt w10) := Lib.hid (HX9.out.trans hx10)
                have HW10 := Lib.hid (And.intro (HW9.out.1.ext hx10) (HW9.out.2.ext hx10))
                have HMI := Lib.hid (zmissing_yes HQ10.out.z.choose_spec.2)
                have HML : Hid ((missZ f2 cn).length ≤ 100) := Lib.hid (by have := missZ_len f2 cn; omega)
                clear hx10 HSA HW9 HX9 HQ9
                go_wp2_with fail
                refine HMI.out.mono ?_
                rintro e w11 ⟨A11, c11, rfl, hrow, hx11⟩
                have HQ11 := Lib.hid (HQ10.out.keep hx11)
                have HX11 : Hid (Ext wt w11) := Lib.hid (HX10.out.trans hx11)
                have HW11 := Lib.hid (And.intro (HW10.out.1.ext hx11) (HW10.out.2.ext hx11))
                have HRO := Lib.hid (RowN.of_own hrow)
                have hmr := rzmissing_of HQ11.out.r
                rw [(HS1.out.all cn).1] at hmr
                have HMR := Lib.hid hmr
                clear hx11 hrow hmr HMI HW10 HX10 HQ10
                go_wp2_with fail
                refine HMR.out.mono ?_
                rintro e w12 ⟨A12, c12, rfl, hrow, hx12⟩
                have HX12 : Hid (Ext wt w12) := Lib.hid (HX11.out.trans hx12)
                have HW12 := Lib.hid (And.intro (HW11.out.1.ext hx12) (HW11.out.2.ext hx12))
                have HIT := Lib.hid (rints_of A11 A12 c11 c12 (missZ f2 cn) HML.out (HRO.out.ext hx12) (RowN.of_own hrow))
                clear hx12 hrow HMR HW11 HX11 HQ11 HRO HML
                go_wp2_with fail
                refine HIT.out.mono ?_
                rintro e w13 ⟨rfl, hx13⟩
                have HX13 : Hid (Ext wt w13) := Lib.hid (HX12.out.trans hx13)
                have HW13 := Lib.hid (And.intro (HW12.out.1.ext hx13) (HW12.out.2.ext hx13))
                clear hx13 HIT HW12 HX12
                go_wp2_with fail
                go_loopw [20] (fun v w14 => ∃ i : Nat, i ≤ n5 ∧ v = .int .i64 (i : Int) ∧ Hid (WrB w14 wt.heap.size A5 n5 ∧ WrB w14 wt.heap.size A7 n7) ∧ Hid (Ext wt w14)) (fun v _ => n5 - (intOf v).toNat)
                case atStart => exact ⟨0, by omega, rfl, HW13, HX13⟩
                case round =>
                  obtain ⟨i5, hi5, rfl, HW, HX⟩ := hrel
                  by_cases hia : i5 < n5
                  · obtain ⟨q2, x, hqA, hqB, hx256, hcell, hfr⟩ := HW.out.1 i5 hia
                    subst hqA
                    have hia' : (i5 : Int) < (n5 : Int) := by omega
                    have hy : ((x : Int) + 1) % 256 = (((x + 1) % 256 : Nat) : Int) := by omega
                    have HWS := Lib.hid (And.intro (HW.out.1.set (g := q2) (k := i5) (y := (x + 1) % 256) (Nat.mod_lt _ (by omega)) (by rw [hcell]; rfl)) (HW.out.2.set (g := q2) (k := i5) (y := (x + 1) % 256) (Nat.mod_lt _ (by omega)) (by rw [hcell]; rfl)))
                    have HXS := Lib.hid (ext_setZ (k := i5) HX.out hqB (.int .u8 (((x + 1) % 256 : Nat) : Int)))
                    have HY := Lib.hid hy
                    clear hy
                    go_wp2_with fail
                    go_roundw
                    case rel => exact ⟨i5 + 1, by omega, by go_num, by rw [HY.out]; exact HWS, by rw [HY.out]; exact HXS⟩
                    case measure => simp [intOf]; omega
                  · obtain rfl : i5 = n5 := by omega
                    go_wp2_with fail
                    go_loopw [21] (fun v w14 => ∃ i : Nat, i ≤ n7 ∧ v = .int .i64 (i : Int) ∧ Hid (WrB w14 wt.heap.size A7 n7) ∧ Hid (Ext wt w14)) (fun v _ => n7 - (intOf v).toNat)
                    case atStart => exact ⟨0, by omega, rfl, Lib.hid HW.out.2, HX⟩
                    case round =>
                      obtain ⟨i7, hi7, rfl, HW, HX⟩ := hrel
                      by_cases hia : i7 < n7
                      · obtain ⟨q2, x, hqA, hqB, hx256, hcell, hfr⟩ := HW.out i7 hia
                        subst hqA
                        have hia' : (i7 : Int) < (n7 : Int) := by omega
                        have hy : ((x : Int) + 1) % 256 = (((x + 1) % 256 : Nat) : Int) := by omega
                        have HWS := Lib.hid (HW.out.set (g := q2) (k := i7) (y := (x + 1) % 256) (Nat.mod_lt _ (by omega)) (by rw [hcell]; rfl))
                        have HXS := Lib.hid (ext_setZ (k := i7) HX.out hqB (.int .u8 (((x + 1) % 256 : Nat) : Int)))
                        have HY := Lib.hid hy
                        clear hy
                        go_wp2_with fail
                        go_roundw
                        case rel => exact ⟨i7 + 1, by omega, by go_num, by rw [HY.out]; exact HWS, by rw [HY.out]; exact HXS⟩
                        case measure => simp [intOf]; omega
                      · obtain rfl : i7 = n7 := by omega
                        go_wp2_with fail
                        go_roundw
                        case rel => exact ⟨j + 1, f2, fr2, by omega, by go_num, Lib.hid (HQ1.out.keep HX.out), HS1⟩
                        case measure => simp [intOf]; omega
end Go.Proofs.Ytgcinagkbdcgiaa
