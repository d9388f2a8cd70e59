/-
  The walk of TagCut: a tag's form that is cut, or has more behind it, is none.
-/
import Derived.Test.YtlfdagajfhikhaaDoorTAwake
import Derived.Test.YtlfdagajfhikhaaDoorTBack
import Derived.Test.YtlfdagajfhikhaaDoorApp
import Derived.OpenShut
namespace Go.Proofs.YtlfdagajfhikhaaDoor
open Go Go.RowKit Go.ChangeShapes Go.WideShapes

theorem cut_pos (x : Int) : ∃ p : Nat, p < 15 ∧ (IntKind.u64.wrap x).tmod 15 = (p : Int) := by
  have h := IntKind.wrap_u64 x
  rw [h]
  have h0 : 0 ≤ x % 18446744073709551616 := Int.emod_nonneg _ (by omega)
  rw [Int.tmod_eq_emod_of_nonneg h0]
  have h1 : 0 ≤ x % 18446744073709551616 % 15 := Int.emod_nonneg _ (by omega)
  obtain ⟨p, hp⟩ := Int.eq_ofNat_of_zero_le h1
  exact ⟨p, by omega, hp⟩

set_option maxRecDepth 100000 in
set_option maxHeartbeats 3200000 in
theorem tagCut_yes (a b c d e : Nat) (x : Int) (A : Option Addr) (n cp : Nat) (l : List Nat) (w : World) (hb : By w A n cp l) (hL : LaidA w) (hn : n ≤ 50) (hm : mayB a b c d e = true) :
    Calls Tryd.prog 8 #[.agg #[.int .i64 a, .int .i64 b, .int .i64 c, .int .i64 d, .int .i64 e], .int .i64 x, .slice A n cp] w fun r w' => r = .returned (.bool true) ∧ Ext w w' := by
  obtain ⟨i0, hi, hz0, hz1, hz2⟩ := info_parts byte_info
  obtain ⟨p, hp, hpos⟩ := cut_pos x
  have hE := (Ext.refl w).alloc (.cells #[.int .i64 a, .int .i64 b, .int .i64 c, .int .i64 d, .int .i64 e] 23)
  have HT := Lib.hid (heap_alloc_new w (.cells #[.int .i64 a, .int .i64 b, .int .i64 c, .int .i64 d, .int .i64 e] 23))
  have HB := Lib.hid hb
  have HL := Lib.hid hL
  have HE := Lib.hid hE
  have HM := Lib.hid hm
  clear hE hb hL hm
  go_enter Tryd.func8, Tryd.ntmps8
  go_wp2_with fail
  refine (tawake_any _ (HL.out.ext HE.out)).mono ?_
  rintro r w1 ⟨rfl, hx⟩
  have HE := Lib.hid (HE.out.trans hx)
  have ht := (hx.block _ (Array.getElem?_eq_some_iff.1 HT.out).1).trans HT.out
  obtain ⟨⟨j0, j1, j2, j3, j4⟩, _⟩ := five_cells ht
  clear hx ht
  go_wp2_with fail
  refine (print_yes a b c d e _ (HL.out.ext HE.out) HM.out).mono ?_
  rintro r w2 ⟨A2, c2, rfl, hb2, hx⟩
  have hc2 : 15 ≤ c2 := hb2.cap
  have HB2 := Lib.hid hb2
  have HE := Lib.hid (HE.out.trans hx)
  clear hx hb2 j0 j1 j2 j3 j4
  go_wp2_with fail
  have hcut : (15 : Nat) - (1 + p) ≤ 15 := by omega
  have hlen : ((tagBytes a b c d e).take (15 - (1 + p))).length ≠ 15 := by rw [List.length_take]; omega
  have HV := Lib.hid (PV_len hlen)
  have HC := Lib.hid (HB2.out.drop_last (15 - (1 + p)) hcut)
  clear hlen
  refine (parse_any _ _ _ ((tagBytes a b c d e).take (15 - (1 + p))) _ (HL.out.ext HE.out) HC.out (by omega)).mono ?_
  rw [pe_no HV.out, pf_no HV.out, pf_no HV.out, pf_no HV.out, pf_no HV.out, pf_no HV.out]
  rintro r w3 ⟨rfl, hx⟩
  have hx := hx.alloc (.cells #[.int .i64 0, .int .i64 0, .int .i64 0, .int .i64 0, .int .i64 0] 23)
  have HB2 := Lib.hid (HB2.out.ext hx)
  have HE := Lib.hid (HE.out.trans hx)
  clear hx hpos hcut HC
  go_wp2_with fail
  generalize (w3.alloc (.cells #[.int .i64 0, .int .i64 0, .int .i64 0, .int .i64 0, .int .i64 0] 23)) = W at *
  refine (copy_by _ _ 15 _ _ HB2.out (by omega)).mono ?_
  rintro r w4 ⟨A4, c4, rfl, _, hx, hown⟩
  have HO := Lib.hid hown
  have HX4 := Lib.hid hx
  have HE4 := Lib.hid (HE.out.trans hx)
  have hsz := Ext.size hx
  clear hx hown
  go_wp2_with (at_builtin; refine wpList_append_by rfl _ _ 24 rfl _ 5 i0 Tryd.underlying24 hi hz0 hz1 hz2 _ 15 (vb (tagBytes a b c d e)) rfl HO.out A n cp l rfl (HB.out.ext HE4.out) (by omega) hsz ?_)
  intro v5 w5 hown hg
  obtain ⟨hx, A5, c5, rfl, hb5, _⟩ := app_step HX4.out HO.out hg hown (tagBytes_lt a b c d e) HB.out.rd.lt
  have HB5 := Lib.hid hb5
  have HE := Lib.hid (HE.out.trans hx)
  clear hx hb5 hown hg hsz
  by_cases h0 : n = 0
  · subst h0
    have hl0 : l = [] := List.eq_nil_of_length_eq_zero HB.out.len
    subst hl0
    have hb5 := HB5.out
    rw [List.append_nil] at hb5
    have HB5 := Lib.hid hb5
    have HP := Lib.hid (pe_yes (PV_tag HM.out).1)
    clear hb5
    go_wp2_with fail
    refine (parse_any _ _ _ (tagBytes a b c d e) _ (HL.out.ext HE.out) HB5.out (by omega)).mono ?_
    rw [HP.out]
    rintro r w6 ⟨rfl, hx⟩
    have HE := Lib.hid ((HE.out.trans hx).alloc (.cells #[.int .i64 (pf (tagBytes a b c d e) 0), .int .i64 (pf (tagBytes a b c d e) 1), .int .i64 (pf (tagBytes a b c d e) 2), .int .i64 (pf (tagBytes a b c d e) 3), .int .i64 (pf (tagBytes a b c d e) 4)] 23))
    clear hx
    go_wp2_with fail
    go_ret
    exact ⟨rfl, HE.out⟩
  · have hlen : (tagBytes a b c d e ++ l).length ≠ 15 := by rw [List.length_append, tagBytes_len, HB.out.len]; omega
    have HV := Lib.hid (PV_len hlen)
    have hn0 : ((n : Int) == 0) = false := by simp; omega
    clear hlen
    go_wp2_with fail
    refine (parse_any _ _ _ (tagBytes a b c d e ++ l) _ (HL.out.ext HE.out) HB5.out (by omega)).mono ?_
    rw [pe_no HV.out, pf_no HV.out, pf_no HV.out, pf_no HV.out, pf_no HV.out, pf_no HV.out]
    rintro r w6 ⟨rfl, hx⟩
    have HE := Lib.hid ((HE.out.trans hx).alloc (.cells #[.int .i64 0, .int .i64 0, .int .i64 0, .int .i64 0, .int .i64 0] 23))
    clear hx
    go_wp2_with fail
    go_ret
    exact ⟨rfl, HE.out⟩

set_option maxRecDepth 100000 in
theorem tagCut_law (a b c d e : Int) (x : Int) (A : Option Addr) (n cp : Nat) (l : List Nat) (w : World) (_ : (Lit.int .i64 x).wf = true) (hb : Bs w w.heap.size A n cp l) (hL : LaidA w) :
    Calls Tryd.prog 8 #[.agg #[.int .i64 a, .int .i64 b, .int .i64 c, .int .i64 d, .int .i64 e], .int .i64 x, .slice A n cp] w fun r w' => r = .returned (.bool true) ∧ Below w.heap.size w w' := by
  show Calls Tryd.prog 8 #[.agg #[.int .i64 a, .int .i64 b, .int .i64 c, .int .i64 d, .int .i64 e], .int .i64 x, .slice A n cp] w fun r w' => r = .returned (.bool true) ∧ Ext w w'
  have hcap := hb.cap
  have hmost := hb.most
  have HT := Lib.hid (heap_alloc_new w (.cells #[.int .i64 a, .int .i64 b, .int .i64 c, .int .i64 d, .int .i64 e] 23))
  have HE := Lib.hid ((Ext.refl w).alloc (.cells #[.int .i64 a, .int .i64 b, .int .i64 c, .int .i64 d, .int .i64 e] 23))
  by_cases hm : mayB a b c d e = true
  · by_cases hn : n ≤ 50
    · obtain ⟨a, b, c, d, e, rfl, rfl, rfl, rfl, rfl⟩ := may_nat hm
      exact tagCut_yes a b c d e x A n cp l w hb hL hn hm
    · obtain ⟨a, b, c, d, e, rfl, rfl, rfl, rfl, rfl⟩ := may_nat hm
      have HM := Lib.hid hm
      have HL := Lib.hid hL
      clear hm hL hb
      go_enter Tryd.func8, Tryd.ntmps8
      go_wp2_with fail
      refine (tawake_any _ (HL.out.ext HE.out)).mono ?_
      rintro r w1 ⟨rfl, hx⟩
      have HE := Lib.hid (HE.out.trans hx)
      have ht := (hx.block _ (Array.getElem?_eq_some_iff.1 HT.out).1).trans HT.out
      obtain ⟨⟨j0, j1, j2, j3, j4⟩, _⟩ := five_cells ht
      clear hx ht
      go_wp2_with fail
      refine (print_yes a b c d e _ (HL.out.ext HE.out) HM.out).mono ?_
      rintro r w2 ⟨A2, c2, rfl, _, hx⟩
      have HE := Lib.hid (HE.out.trans hx)
      clear hx j0 j1 j2 j3 j4
      go_wp2_with fail
      go_ret
      exact ⟨rfl, HE.out⟩
  · have HM := Lib.hid (show mayB a b c d e = false by simpa using hm)
    have HL := Lib.hid hL
    clear hm hL hb
    go_enter Tryd.func8, Tryd.ntmps8
    go_wp2_with fail
    refine (tawake_any _ (HL.out.ext HE.out)).mono ?_
    rintro r w1 ⟨rfl, hx⟩
    have HE := Lib.hid (HE.out.trans hx)
    have ht := (hx.block _ (Array.getElem?_eq_some_iff.1 HT.out).1).trans HT.out
    obtain ⟨⟨j0, j1, j2, j3, j4⟩, _⟩ := five_cells ht
    clear hx ht
    go_wp2_with fail
    refine (print_no a b c d e _ (HL.out.ext HE.out).t HM.out).mono ?_
    rintro r w2 ⟨rfl, hx⟩
    have HE := Lib.hid (HE.out.trans hx)
    clear hx j0 j1 j2 j3 j4
    go_wp2_with fail
    go_ret
    exact ⟨rfl, HE.out⟩
end Go.Proofs.YtlfdagajfhikhaaDoor
