/-
  The walk of FrameCut: a frame that is cut, or has more behind it, is not good.
-/
import Derived.Test.YtgcjilifmcianaaDoorFSealed
namespace Go.Proofs.YtgcjilifmcianaaDoor
open Go Go.RowKit

theorem cut_pos (x : Int) : ∃ p : Nat, p < 64 ∧ (IntKind.u64.wrap x).tmod 64 = (p : Int) := by
  have h := IntKind.wrap_u64 x
  rw [h]
  have h0 : 0 ≤ x % 18446744073709551616 := Int.emod_nonneg _ (by omega)
  rw [Int.tmod_eq_emod_of_nonneg h0]
  have h1 : 0 ≤ x % 18446744073709551616 % 64 := Int.emod_nonneg _ (by omega)
  obtain ⟨p, hp⟩ := Int.eq_ofNat_of_zero_le h1
  exact ⟨p, by omega, hp⟩

set_option maxRecDepth 100000 in
set_option maxHeartbeats 6400000 in
theorem frameCut_yes (a b c d e : Int) (A : Option Addr) (n cp : Nat) (l : List Nat) (x : Int) (A2 : Option Addr) (n2 cp2 : Nat) (l2 : List Nat) (w : World) (hb : By w A n cp l) (hb2 : By w A2 n2 cp2 l2) (hL : LaidF w) (hn : n ≤ 43) (hn2 : n2 ≤ 63) (hz : sealE a b c d e n 1 = 0) :
    Calls Tryd.prog 9 #[.agg #[.int .i64 a, .int .i64 b, .int .i64 c, .int .i64 d, .int .i64 e], .slice A n cp, .int .i64 x, .slice A2 n2 cp2] w fun r w' => r = .returned (.bool true) ∧ Ext w w' := by
  obtain ⟨i0, hi, hz0, hz1, hz2⟩ := info_parts byte_info
  obtain ⟨p, hp, hpos⟩ := cut_pos x
  have hE := (Ext.refl w).alloc (.cells #[.int .i64 a, .int .i64 b, .int .i64 c, .int .i64 d, .int .i64 e] 23)
  have HT := Lib.hid (heap_alloc_new w (.cells #[.int .i64 a, .int .i64 b, .int .i64 c, .int .i64 d, .int .i64 e] 23))
  have hlen : l.length = n := Bs.len hb
  have hz' : sealE a b c d e l.length 1 = 0 := by rw [hlen]; exact hz
  have hgood := (sealL_good hz').1
  have hL64 := (sealL_len hz').1
  rw [show Int.toNat 1 = 1 from rfl] at hL64
  have HLt : Hid (∀ v ∈ sealL a b c d e l 1, v < 256) := Lib.hid (sealL_lt (Bs.rd hb).lt)
  have HG := Lib.hid hgood
  have H64 : Hid ((sealL a b c d e l 1).length = 64) := Lib.hid hL64
  have HB := Lib.hid hb
  have HB2 := Lib.hid hb2
  have HL := Lib.hid hL
  have HE := Lib.hid hE
  have HZ := Lib.hid hz
  clear hE hb hL hb2 hz hz' hgood hlen hL64
  go_enter Tryd.func9, Tryd.ntmps9
  go_wp2_with fail
  refine (fawake_any _ (HL.out.ext HE.out)).mono ?_
  rintro r w1 ⟨rfl, hx⟩
  have HE := Lib.hid (HE.out.trans hx)
  have ht := (hx.block _ (Array.getElem?_eq_some_iff.1 HT.out).1).trans HT.out
  obtain ⟨⟨j0, j1, j2, j3, j4⟩, _⟩ := five_cells ht
  clear hx ht
  go_wp2_with fail
  refine (sealed_any _ _ _ _ _ _ _ _ l false _ (HL.out.ext HE.out) (HB.out.ext HE.out)).mono ?_
  rw [show sS false = 1 from rfl, decide_eq_true HZ.out, H64.out]
  generalize sealL a b c d e l 1 = L at *
  rintro r w2 ⟨A3, c3, rfl, hb3, hx⟩
  have hc3 : 64 ≤ c3 := hb3.cap
  have HB3 := Lib.hid hb3
  have HE := Lib.hid (HE.out.trans hx)
  clear hx hb3 j0 j1 j2 j3 j4
  go_wp2_with fail
  have hcut : (64 : Nat) - (1 + p) ≤ 64 := by omega
  have HC := Lib.hid (HB3.out.drop_last (64 - (1 + p)) hcut)
  have hsz : szB (L.take (64 - (1 + p))) = false := by
    have h1 : (L.take (64 - (1 + p))).length = 64 - (1 + p) := HC.out.len
    unfold szB
    rw [h1]
    simp
    omega
  have HS := Lib.hid hsz
  clear hsz
  refine (open_early _ _ _ (L.take (64 - (1 + p))) _ HC.out (.inl HS.out)).mono ?_
  rw [stN_size HS.out]
  rintro r w3 ⟨rfl, hx⟩
  have hx := hx.alloc (.cells #[.int .i64 0, .int .i64 0, .int .i64 0, .int .i64 0, .int .i64 0] 23)
  have HB3 := Lib.hid (HB3.out.ext hx)
  have HE := Lib.hid (HE.out.trans hx)
  clear hx hpos hcut HC HS
  go_wp2_with fail
  generalize (w3.alloc (.cells #[.int .i64 0, .int .i64 0, .int .i64 0, .int .i64 0, .int .i64 0] 23)) = W at *
  refine (copy_by _ _ 64 _ _ HB3.out (by omega)).mono ?_
  rintro r w4 ⟨A4, c4, rfl, _, hx, hown⟩
  have HO := Lib.hid hown
  have HX4 := Lib.hid hx
  have HE4 := Lib.hid (HE.out.trans hx)
  have hsz := Ext.size hx
  clear hx hown
  go_wp2_with (at_builtin; refine wpList_append_by rfl _ _ 24 rfl _ 5 i0 Tryd.underlying24 hi hz0 hz1 hz2 _ 64 (vb L) rfl HO.out A2 n2 cp2 l2 rfl (HB2.out.ext HE4.out) (by omega) hsz ?_)
  intro v5 w5 hown hg
  obtain ⟨hx, A5, c5, rfl, hb5, _⟩ := app_step HX4.out HO.out hg hown HLt.out HB2.out.rd.lt
  have HB5 := Lib.hid hb5
  have HE := Lib.hid (HE.out.trans hx)
  clear hx hb5 hown hg hsz
  by_cases h0 : n2 = 0
  · subst h0
    have hl0 : l2 = [] := List.eq_nil_of_length_eq_zero HB2.out.len
    subst hl0
    have hb5 := HB5.out
    rw [List.append_nil] at hb5
    have HB5 := Lib.hid hb5
    have HST := Lib.hid (stN_good HG.out)
    clear hb5
    go_wp2_with fail
    refine (open_any _ _ _ L _ (HL.out.ext HE.out) HB5.out).mono ?_
    rw [HST.out]
    generalize ofl L 0 = f0
    generalize ofl L 1 = f1
    generalize ofl L 2 = f2
    generalize ofl L 3 = f3
    generalize ofl L 4 = f4
    rintro r w6 ⟨A6, N6, rfl, _, _, hx⟩
    have HE := Lib.hid ((HE.out.trans hx).alloc (.cells #[.int .i64 f0, .int .i64 f1, .int .i64 f2, .int .i64 f3, .int .i64 f4] 23))
    clear hx
    go_wp2_with fail
    go_ret
    exact ⟨rfl, HE.out⟩
  · have hszz : szB (L ++ l2) = false := by
      unfold szB
      rw [List.length_append, H64.out, HB2.out.len]
      simp
      omega
    have HS := Lib.hid hszz
    have hn0 : ((n2 : Int) == 0) = false := by simp; omega
    clear hszz
    go_wp2_with fail
    refine (open_early _ _ _ (L ++ l2) _ HB5.out (.inl HS.out)).mono ?_
    rw [stN_size HS.out]
    rintro r w6 ⟨rfl, hx⟩
    have HE := Lib.hid ((HE.out.trans hx).alloc (.cells #[.int .i64 0, .int .i64 0, .int .i64 0, .int .i64 0, .int .i64 0] 23))
    clear hx
    go_wp2_with fail
    go_ret
    exact ⟨rfl, HE.out⟩

set_option maxRecDepth 100000 in
set_option maxHeartbeats 3200000 in
theorem frameCut_law (a b c d e : Int) (A : Option Addr) (n cp : Nat) (l : List Nat) (x : Int) (A2 : Option Addr) (n2 cp2 : Nat) (l2 : List Nat) (w : World) (hb : Bs w w.heap.size A n cp l) (_ : (Lit.int .i64 x).wf = true) (hb2 : Bs w w.heap.size A2 n2 cp2 l2) (hL : LaidF w) :
    Calls Tryd.prog 9 #[.agg #[.int .i64 a, .int .i64 b, .int .i64 c, .int .i64 d, .int .i64 e], .slice A n cp, .int .i64 x, .slice A2 n2 cp2] w fun r w' => r = .returned (.bool true) ∧ Below w.heap.size w w' := by
  show Calls Tryd.prog 9 #[.agg #[.int .i64 a, .int .i64 b, .int .i64 c, .int .i64 d, .int .i64 e], .slice A n cp, .int .i64 x, .slice A2 n2 cp2] w fun r w' => r = .returned (.bool true) ∧ Ext w w'
  have hcap := hb.cap
  have hmost := hb.most
  have hcap2 := hb2.cap
  have hmost2 := hb2.most
  have HT := Lib.hid (heap_alloc_new w (.cells #[.int .i64 a, .int .i64 b, .int .i64 c, .int .i64 d, .int .i64 e] 23))
  have HE := Lib.hid ((Ext.refl w).alloc (.cells #[.int .i64 a, .int .i64 b, .int .i64 c, .int .i64 d, .int .i64 e] 23))
  have HL := Lib.hid hL
  by_cases hn : 43 < n
  · clear hb hb2 hL
    go_enter Tryd.func9, Tryd.ntmps9
    go_wp2_with fail
    refine (fawake_any _ (HL.out.ext HE.out)).mono ?_
    rintro r w1 ⟨rfl, hx⟩
    have HE := Lib.hid (HE.out.trans hx)
    clear hx
    go_wp2_with fail
    go_ret
    exact ⟨rfl, HE.out⟩
  by_cases hn2 : 63 < n2
  · clear hb hb2 hL
    go_enter Tryd.func9, Tryd.ntmps9
    go_wp2_with fail
    refine (fawake_any _ (HL.out.ext HE.out)).mono ?_
    rintro r w1 ⟨rfl, hx⟩
    have HE := Lib.hid (HE.out.trans hx)
    clear hx
    go_wp2_with fail
    go_ret
    exact ⟨rfl, HE.out⟩
  by_cases hz : sealE a b c d e n 1 = 0
  · exact frameCut_yes a b c d e A n cp l x A2 n2 cp2 l2 w hb hb2 hL (by omega) (by omega) hz
  · have HB : Hid (By w A n cp l) := Lib.hid hb
    have HD := Lib.hid hz
    have hm : mayB a b c d e = false := by
      by_cases hm : mayB a b c d e = true
      · rw [sealE_zero] at hz
        exact absurd ⟨by decide, hm, by rw [show roomN 1 = 43 from rfl]; omega⟩ hz
      · simpa using hm
    have HM := Lib.hid hm
    clear hb hb2 hL hz hm
    go_enter Tryd.func9, Tryd.ntmps9
    go_wp2_with fail
    refine (fawake_any _ (HL.out.ext HE.out)).mono ?_
    rintro r w1 ⟨rfl, hx⟩
    have HE := Lib.hid (HE.out.trans hx)
    have ht := (hx.block _ (Array.getElem?_eq_some_iff.1 HT.out).1).trans HT.out
    have HT := Lib.hid ht
    obtain ⟨⟨j0, j1, j2, j3, j4⟩, _⟩ := five_cells ht
    clear hx ht
    go_wp2_with fail
    refine (sealed_any _ _ _ _ _ _ _ _ l false _ (HL.out.ext HE.out) (HB.out.ext HE.out)).mono ?_
    rw [show sS false = 1 from rfl, decide_eq_false HD.out]
    rintro r w2 ⟨A3, c3, rfl, _, hx⟩
    generalize (sealL a b c d e l 1).length = m3 at *
    have HE := Lib.hid (HE.out.trans hx)
    have ht := (hx.block _ (Array.getElem?_eq_some_iff.1 HT.out).1).trans HT.out
    clear hx j0 j1 j2 j3 j4
    obtain ⟨⟨j0, j1, j2, j3, j4⟩, _⟩ := five_cells ht
    clear ht
    go_wp2_with fail
    refine (may_any _ _ _ _ _ _ (HL.out.ext HE.out).a.t).mono ?_
    rw [HM.out]
    rintro r w4 ⟨rfl, hx⟩
    have HE := Lib.hid (HE.out.trans hx)
    clear hx j0 j1 j2 j3 j4
    go_wp2_with fail
    go_ret
    exact ⟨rfl, HE.out⟩
end Go.Proofs.YtgcjilifmcianaaDoor
