/-
  The walk of EntryShort: a body that is cut, or has more behind it, is none.
-/
import Derived.Test.YtoapjgkfggggmaaDoorEAwake
import Derived.Test.YtoapjgkfggggmaaDoorERBytes
import Derived.Test.YtoapjgkfggggmaaDoorEOpen
namespace Go.Proofs.YtoapjgkfggggmaaDoor
open Go Go.RowKit

theorem tmod_len (a : Int) (m : Nat) (hm : 0 < m) : ∃ p : Nat, p < m ∧ (IntKind.u64.wrap a).tmod (m : Int) = (p : Int) := by
  have h0 : 0 ≤ IntKind.u64.wrap a := by rw [IntKind.wrap_u64]; omega
  have h1 := Int.tmod_nonneg (m : Int) h0
  have h2 := Int.tmod_lt_of_pos (IntKind.u64.wrap a) (show (0 : Int) < m by omega)
  obtain ⟨p, hp⟩ := Int.eq_ofNat_of_zero_le h1
  exact ⟨p, by omega, hp⟩
set_option maxRecDepth 100000 in
set_option maxHeartbeats 3200000 in
theorem entryShort_law (x y : Int) (e : Ent) (a : Int) (A : Option Addr) (n c : Nat) (bh : List Nat) (w : World) (hw : e.Wf) (_ha : (Lit.int .i64 a).wf = true) (hb : Bs w w.heap.size A n c bh) (hL : Laid w) :
    Calls Tryd.prog 8 #[.agg #[.int .i64 x, .int .i64 y], .agg #[.int .u8 (e.k : Nat), .int .i64 e.cl, .int .i64 e.sq, .int .u8 (e.ok : Nat), .string e.key, .string e.old, .string e.val], .int .i64 a, .slice A n c] w fun r w' => r = .returned (.bool true) ∧ Below w.heap.size w w' := by
  show Calls Tryd.prog 8 #[.agg #[.int .i64 x, .int .i64 y], .agg #[.int .u8 (e.k : Nat), .int .i64 e.cl, .int .i64 e.sq, .int .u8 (e.ok : Nat), .string e.key, .string e.old, .string e.val], .int .i64 a, .slice A n c] w fun r w' => r = .returned (.bool true) ∧ Ext w w'
  obtain ⟨k, cl, sq, ok, key, old, val⟩ := e
  have hok : ok < 256 := hw.ok
  clear hw _ha
  dsimp only
  obtain ⟨i0, hi, hz0, hz1, hz2⟩ := info_parts byte_info
  have hcap := hb.cap
  have hmost := hb.most
  have hx1 := (Ext.refl w).alloc (.cells #[.int .i64 x, .int .i64 y] 23)
  have hx2 := (Ext.refl (w.alloc (.cells #[.int .i64 x, .int .i64 y] 23))).alloc (.cells #[.int .u8 (k : Int), .int .i64 cl, .int .i64 sq, .int .u8 (ok : Int), .string key, .string old, .string val] 27)
  have HTB := Lib.hid (heap_ext (heap_alloc_new w (.cells #[.int .i64 x, .int .i64 y] 23)) hx2)
  have HT := Lib.hid (heap_alloc2_new w (.cells #[.int .i64 x, .int .i64 y] 23) (.cells #[.int .u8 (k : Int), .int .i64 cl, .int .i64 sq, .int .u8 (ok : Int), .string key, .string old, .string val] 27))
  have HE := Lib.hid (hx1.trans hx2)
  have HL := Lib.hid (hL.ext (hx1.trans hx2))
  have HB : Hid (By _ A n c bh) := Lib.hid (By.ext hb (hx1.trans hx2))
  have HLN := Lib.hid hb.len
  have HLT := Lib.hid hb.rd.lt
  clear hx1 hx2 hL hb
  cases hg : grE key old val with
  | true =>
    have HG := Lib.hid hg
    clear hg
    go_enter Tryd.func8, Tryd.ntmps8
    go_wp2_with fail
    refine (eawake_any _ HL.out).mono ?_
    rintro r w1 ⟨rfl, hx⟩
    have HT := Lib.hid (heap_ext HT.out hx)
    have HTB := Lib.hid (heap_ext HTB.out hx)
    have HL := Lib.hid (HL.out.ext hx)
    have HB := Lib.hid (HB.out.ext hx)
    have HE := Lib.hid (HE.out.trans hx)
    clear hx
    obtain ⟨i0', i1, i2, i3, i4, i5, i6⟩ := seven_cells HT.out
    go_wp2_with fail
    refine (great_any _ _ _ _ _ _ _ _).mono ?_
    rw [HG.out]
    rintro r w2 ⟨rfl, hx⟩
    have HT := Lib.hid (heap_ext HT.out hx)
    have HTB := Lib.hid (heap_ext HTB.out hx)
    have HL := Lib.hid (HL.out.ext hx)
    have HB := Lib.hid (HB.out.ext hx)
    have HE := Lib.hid (HE.out.trans hx)
    clear hx i0' i1 i2 i3 i4 i5 i6
    go_wp2_with fail
    go_ret
    exact ⟨rfl, HE.out⟩
  | false =>
    have HG := Lib.hid hg
    clear hg
    by_cases hn : 50 < n
    · go_enter Tryd.func8, Tryd.ntmps8
      go_wp2_with fail
      refine (eawake_any _ HL.out).mono ?_
      rintro r w1 ⟨rfl, hx⟩
      have HT := Lib.hid (heap_ext HT.out hx)
      have HTB := Lib.hid (heap_ext HTB.out hx)
      have HL := Lib.hid (HL.out.ext hx)
      have HB := Lib.hid (HB.out.ext hx)
      have HE := Lib.hid (HE.out.trans hx)
      clear hx
      obtain ⟨i0', i1, i2, i3, i4, i5, i6⟩ := seven_cells HT.out
      go_wp2_with fail
      refine (great_any _ _ _ _ _ _ _ _).mono ?_
      rw [HG.out]
      rintro r w2 ⟨rfl, hx⟩
      have HT := Lib.hid (heap_ext HT.out hx)
      have HTB := Lib.hid (heap_ext HTB.out hx)
      have HL := Lib.hid (HL.out.ext hx)
      have HB := Lib.hid (HB.out.ext hx)
      have HE := Lib.hid (HE.out.trans hx)
      clear hx i0' i1 i2 i3 i4 i5 i6
      go_wp2_with fail
      go_ret
      exact ⟨rfl, HE.out⟩
    have hp1 := fun V (hV : Laid V) => print_any x y k cl sq ok key old val V hV hok
    by_cases hpk : balE x y = true ∧ enOk ⟨k, cl, sq, ok, key, old, val⟩ = true
    · obtain ⟨hbal, hk⟩ := hpk
      rw [pL_yes hbal hk, pR_yes hbal hk] at hp1
      obtain ⟨xn, yn, hxe, hye, hbk⟩ := bd_back hk hbal
      subst hxe hye
      have hlen := bodyL_len (x := (xn : Int)) (y := (yn : Int)) hk
      have hlt := bodyL_lt (x := (xn : Int)) (y := (yn : Int)) hk hbal
      generalize bodyL (xn : Int) (yn : Int) ⟨k, cl, sq, ok, key, old, val⟩ = T at *
      obtain ⟨tn, htn⟩ : ∃ tn, T.length = tn := ⟨_, rfl⟩
      rw [htn] at hp1 hlen
      obtain ⟨p, hpl, hp⟩ := tmod_len a tn (by omega)
      have HCUT : Hid (psE (T.take (tn - (1 + p))) = (0, 0, {}, 90)) := Lib.hid (psE_none (bd_other hlt (fun z hz => hlt z (List.mem_of_mem_take hz)) hbk (by rw [List.length_take]; omega) (.inl ⟨T.drop (tn - (1 + p)), (List.take_append_drop _ _).symm⟩)))
      have HMORE : Hid ((psE (T ++ bh)).2.2.2 = if n = 0 then 0 else 90) := Lib.hid (by
        by_cases h0 : n = 0
        · have : bh = [] := List.eq_nil_of_length_eq_zero (by rw [HLN.out, h0])
          rw [if_pos h0, this, List.append_nil, psE_some hbk]
        · rw [if_neg h0, psE_none (bd_other hlt (fun z hz => by
            rcases List.mem_append.1 hz with h | h
            · exact hlt z h
            · exact HLT.out z h) hbk (by rw [List.length_append, HLN.out]; omega) (.inr ⟨bh, rfl⟩))])
      have HP1 := Lib.hid hp1
      have HTN := Lib.hid htn
      obtain ⟨hl8, hl59⟩ := hlen
      clear hbal hk hbk hp1 hok hlt htn
      go_enter Tryd.func8, Tryd.ntmps8
      go_wp2_with fail
      refine (eawake_any _ HL.out).mono ?_
      rintro r w1 ⟨rfl, hx⟩
      have HT := Lib.hid (heap_ext HT.out hx)
      have HTB := Lib.hid (heap_ext HTB.out hx)
      have HL := Lib.hid (HL.out.ext hx)
      have HB := Lib.hid (HB.out.ext hx)
      have HE := Lib.hid (HE.out.trans hx)
      clear hx
      obtain ⟨i0', i1, i2, i3, i4, i5, i6⟩ := seven_cells HT.out
      go_wp2_with fail
      refine (great_any _ _ _ _ _ _ _ _).mono ?_
      rw [HG.out]
      rintro r w2 ⟨rfl, hx⟩
      have HT := Lib.hid (heap_ext HT.out hx)
      have HTB := Lib.hid (heap_ext HTB.out hx)
      have HL := Lib.hid (HL.out.ext hx)
      have HB := Lib.hid (HB.out.ext hx)
      have HE := Lib.hid (HE.out.trans hx)
      clear hx i0' i1 i2 i3 i4 i5 i6
      obtain ⟨i0', i1, i2, i3, i4, i5, i6⟩ := seven_cells HT.out
      obtain ⟨b0, b1⟩ := two_cells HTB.out
      go_wp2_with fail
      refine (HP1.out _ HL.out).mono ?_
      rintro r w3 ⟨A3, c3, rfl, hb, hx⟩
      have HL := Lib.hid (HL.out.ext hx)
      have HB := Lib.hid (HB.out.ext hx)
      have HE := Lib.hid (HE.out.trans hx)
      have HB3 := Lib.hid hb
      clear hb hx i0' i1 i2 i3 i4 i5 i6 b0 b1
      have hc3 := HB3.out.cap
      have hc3m := HB3.out.most
      go_wp2_with fail
      have hcut := parse_any A3 (tn - (1 + p)) c3 (T.take (tn - (1 + p))) w3 HL.out (HB3.out.drop_last _ (by omega)) (by omega)
      rw [HCUT.out] at hcut
      have HCT : Hid (Calls Tryd.prog 22 #[.slice A3 (tn - (1 + p)) c3] w3 fun e w' => e = .returned (.tuple #[.agg #[.int .i64 0, .int .i64 0], .agg #[.int .u8 0, .int .i64 0, .int .i64 0, .int .u8 0, .string ⟨#[]⟩, .string ⟨#[]⟩, .string ⟨#[]⟩], .int .i64 90]) ∧ Ext w3 w') := Lib.hid hcut
      clear hcut
      refine HCT.out.mono ?_
      rintro r w4 ⟨rfl, hx⟩
      have hx1 := (Ext.refl w4).alloc (.cells #[.int .i64 0, .int .i64 0] 23)
      have hx2 := (Ext.refl (w4.alloc (.cells #[.int .i64 0, .int .i64 0] 23))).alloc (.cells #[.int .u8 0, .int .i64 0, .int .i64 0, .int .u8 0, .string ⟨#[]⟩, .string ⟨#[]⟩, .string ⟨#[]⟩] 27)
      have hx := hx.trans (hx1.trans hx2)
      have HL := Lib.hid (HL.out.ext hx)
      have HB := Lib.hid (HB.out.ext hx)
      have HB3 := Lib.hid (HB3.out.ext hx)
      have HE := Lib.hid (HE.out.trans hx)
      clear hx hx1 hx2 HCT
      go_upto_region 12 with (fail)
      generalize ((w4.alloc (.cells #[.int .i64 0, .int .i64 0] 23)).alloc (.cells #[.int .u8 0, .int .i64 0, .int .i64 0, .int .u8 0, .string ⟨#[]⟩, .string ⟨#[]⟩, .string ⟨#[]⟩] 27)) = w5 at *
      have HL5 := Lib.hid HL.out
      go_wp2_with fail
      refine (copy_by A3 T tn c3 _ HB3.out (by omega)).mono ?_
      rintro r w6 ⟨A6, c6, rfl, _, hx, hown⟩
      have HA : Hid (AppS w5 w6 A6 tn c6 T) := Lib.hid ⟨hown, hx, HB3.out.rd.lt⟩
      have HL := Lib.hid (HL.out.ext hx)
      have HB := Lib.hid (HB.out.ext hx)
      have hsz := HA.out.ext.size
      clear hx hown
      go_wp2_with (at_builtin; refine wpList_append_by rfl _ _ 29 rfl w5.heap.size 5 i0 Tryd.underlying29 hi hz0 hz1 hz2 _ tn (vb T) rfl HA.out.own _ n _ bh rfl HB.out (by omega) hsz ?_)
      intro v7 w7 hown hg
      obtain ⟨A7, c7, rfl, ha, hm⟩ := HA.out.next hown hg HLT.out
      have HL := Lib.hid (HL5.out.ext ha.ext)
      have HA := Lib.hid ha
      clear hown hg ha hm hsz
      go_wp2_with fail
      refine (parse_any A7 (tn + n) c7 (T ++ bh) w7 HL.out HA.out.by_ (by omega)).mono ?_
      obtain ⟨R, hR⟩ : ∃ R, psE (T ++ bh) = R := ⟨_, rfl⟩
      rw [hR] at HMORE ⊢
      clear hR
      obtain ⟨x2, y2, ⟨k2, cl2, sq2, ok2, key2, old2, val2⟩, er⟩ := R
      dsimp only at HMORE ⊢
      rintro r w8 ⟨rfl, hx⟩
      have HE := Lib.hid ((HE.out.trans HA.out.ext).trans (hx.trans (((Ext.refl w8).alloc (.cells #[.int .i64 (x2 : Int), .int .i64 (y2 : Int)] 23)).trans ((Ext.refl (w8.alloc (.cells #[.int .i64 (x2 : Int), .int .i64 (y2 : Int)] 23))).alloc (.cells #[.int .u8 (k2 : Int), .int .i64 cl2, .int .i64 sq2, .int .u8 (ok2 : Int), .string key2, .string old2, .string val2] 27)))))
      clear hx
      go_upto_region 13 with (fail)
      generalize ((w8.alloc (.cells #[.int .i64 (x2 : Int), .int .i64 (y2 : Int)] 23)).alloc (.cells #[.int .u8 (k2 : Int), .int .i64 cl2, .int .i64 sq2, .int .u8 (ok2 : Int), .string key2, .string old2, .string val2] 27)) = w9 at *
      by_cases h0 : n = 0
      · have he := HMORE.out
        rw [if_pos h0] at he
        subst he
        have hz : ((n : Int) == 0) = true := by rw [h0]; rfl
        clear h0
        go_wp2_with fail
        go_ret
        exact ⟨rfl, HE.out⟩
      · have he := HMORE.out
        rw [if_neg h0] at he
        subst he
        have hz : ((n : Int) == 0) = false := by rw [beq_eq_false_iff_ne]; omega
        go_wp2_with fail
        go_ret
        exact ⟨rfl, HE.out⟩
    · have hpl : pL x y ⟨k, cl, sq, ok, key, old, val⟩ = [] := if_neg hpk
      have hpr : pR x y ⟨k, cl, sq, ok, key, old, val⟩ = 2 := if_neg hpk
      rw [hpl, hpr] at hp1
      have HP1 : Hid (∀ V, Laid V → Calls Tryd.prog 12 #[.agg #[.int .i64 x, .int .i64 y], .agg #[.int .u8 (k : Int), .int .i64 cl, .int .i64 sq, .int .u8 (ok : Int), .string key, .string old, .string val]] V fun e w' => ∃ A' c', e = .returned (.tuple #[.slice A' 0 c', .int .i64 2]) ∧ By w' A' 0 c' [] ∧ Ext V w') := Lib.hid hp1
      clear hpk hpl hpr hp1 hok
      go_enter Tryd.func8, Tryd.ntmps8
      go_wp2_with fail
      refine (eawake_any _ HL.out).mono ?_
      rintro r w1 ⟨rfl, hx⟩
      have HT := Lib.hid (heap_ext HT.out hx)
      have HTB := Lib.hid (heap_ext HTB.out hx)
      have HL := Lib.hid (HL.out.ext hx)
      have HB := Lib.hid (HB.out.ext hx)
      have HE := Lib.hid (HE.out.trans hx)
      clear hx
      obtain ⟨i0', i1, i2, i3, i4, i5, i6⟩ := seven_cells HT.out
      go_wp2_with fail
      refine (great_any _ _ _ _ _ _ _ _).mono ?_
      rw [HG.out]
      rintro r w2 ⟨rfl, hx⟩
      have HT := Lib.hid (heap_ext HT.out hx)
      have HTB := Lib.hid (heap_ext HTB.out hx)
      have HL := Lib.hid (HL.out.ext hx)
      have HB := Lib.hid (HB.out.ext hx)
      have HE := Lib.hid (HE.out.trans hx)
      clear hx i0' i1 i2 i3 i4 i5 i6
      obtain ⟨i0', i1, i2, i3, i4, i5, i6⟩ := seven_cells HT.out
      obtain ⟨b0, b1⟩ := two_cells HTB.out
      go_wp2_with fail
      refine (HP1.out _ HL.out).mono ?_
      rintro r w3 ⟨A3, c3, rfl, _, hx⟩
      have HE := Lib.hid (HE.out.trans hx)
      clear hx
      go_wp2_with fail
      go_ret
      exact ⟨rfl, HE.out⟩
end Go.Proofs.YtoapjgkfggggmaaDoor
