/-
  The contract of the document's Print of bodies.
-/
import Derived.Test.YtoapjgkfggggmaaDoorERBytes
namespace Go.Proofs.YtoapjgkfggggmaaDoor
open Go Go.RowKit

set_option maxRecDepth 100000 in
set_option maxHeartbeats 1600000 in
theorem rprint_any (x y : Int) (k : Nat) (cl sq : Int) (ok : Nat) (key old val : ByteArray) (w : World) (hok : ok < 256) :
    Calls Tryd.prog 13 #[.agg #[.int .i64 x, .int .i64 y], .agg #[.int .u8 (k : Int), .int .i64 cl, .int .i64 sq, .int .u8 (ok : Int), .string key, .string old, .string val]] w fun e w' => ∃ A' c', e = .returned (.tuple #[.slice A' (pL x y ⟨k, cl, sq, ok, key, old, val⟩).length c', .int .i64 (pR x y ⟨k, cl, sq, ok, key, old, val⟩)]) ∧ By w' A' (pL x y ⟨k, cl, sq, ok, key, old, val⟩).length c' (pL x y ⟨k, cl, sq, ok, key, old, val⟩) ∧ Ext w w' := by
  obtain ⟨i0, hi, hz0, hz1, hz2⟩ := info_parts byte_info
  have hx1 := (Ext.refl w).alloc (.cells #[.int .i64 x, .int .i64 y] 23)
  have hx2 := (Ext.refl (w.alloc (.cells #[.int .i64 x, .int .i64 y] 23))).alloc (.cells #[.int .u8 (k : Int), .int .i64 cl, .int .i64 sq, .int .u8 (ok : Int), .string key, .string old, .string val] 27)
  have HTB := Lib.hid (heap_ext (heap_alloc_new w (.cells #[.int .i64 x, .int .i64 y] 23)) hx2)
  have HT := Lib.hid (heap_alloc2_new w (.cells #[.int .i64 x, .int .i64 y] 23) (.cells #[.int .u8 (k : Int), .int .i64 cl, .int .i64 sq, .int .u8 (ok : Int), .string key, .string old, .string val] 27))
  have HE := Lib.hid (hx1.trans hx2)
  clear hx1 hx2
  cases hb : balE x y with
  | false =>
    rw [pL_nob hb, pR_nob hb]
    have HB := Lib.hid hb
    clear hb
    go_enter Tryd.func13, Tryd.ntmps13
    go_wp2_with fail
    refine (rballotE _ _ _).mono ?_
    rw [HB.out]
    rintro e w1 ⟨rfl, hx⟩
    have HE := Lib.hid (HE.out.trans hx)
    clear hx
    go_wp2_with fail
    go_ret2
    exact ⟨none, 0, rfl, By.nil_ _, HE.out⟩
  | true =>
    have HBB := Lib.hid hb
    have HC := Lib.hid (fun V => rbytes_any k cl sq ok key old val V hok)
    cases hk : enOk ⟨k, cl, sq, ok, key, old, val⟩ with
    | false =>
      rw [pL_no hk, pR_no hk]
      have HK := Lib.hid hk
      clear hb hk
      go_enter Tryd.func13, Tryd.ntmps13
      go_wp2_with fail
      refine (rballotE _ _ _).mono ?_
      rw [HBB.out]
      rintro e w1 ⟨rfl, hx⟩
      obtain ⟨j0, j1, j2, j3, j4, j5, j6⟩ := seven_cells (heap_ext HT.out hx)
      have HE := Lib.hid (HE.out.trans hx)
      clear hx
      go_wp2_with fail
      refine (rmay_any _ _ _ _ _ _ _ _).mono ?_
      rw [HK.out]
      rintro e w2 ⟨rfl, hx⟩
      have HE := Lib.hid (HE.out.trans hx)
      clear hx j0 j1 j2 j3 j4 j5 j6
      go_wp2_with fail
      go_ret2
      exact ⟨none, 0, rfl, By.nil_ _, HE.out⟩
    | true =>
      rw [pL_yes hb hk, pR_yes hb hk]
      rw [eL_yes hk, eR_yes hk] at HC
      have HK := Lib.hid hk
      obtain ⟨p1, p2, p3, p4⟩ := balE_iff.1 hb
      obtain ⟨xn, rfl⟩ := Int.eq_ofNat_of_zero_le (show 0 ≤ x by omega)
      obtain ⟨yn, rfl⟩ := Int.eq_ofNat_of_zero_le p3
      have hlen := enL_len hk
      have HLN : Hid (bodyL (xn : Int) (yn : Int) ⟨k, cl, sq, ok, key, old, val⟩ = digs 6 xn ++ [yn] ++ enL ⟨k, cl, sq, ok, key, old, val⟩) := Lib.hid rfl
      generalize hE : enL ⟨k, cl, sq, ok, key, old, val⟩ = E at *
      have HN : Hid ((bodyL (xn : Int) (yn : Int) ⟨k, cl, sq, ok, key, old, val⟩).length = 7 + E.length) := Lib.hid (by
        rw [HLN.out]
        simp only [List.length_append, List.length_cons, List.length_nil, digs_length])
      have HF6 : Hid (xn ≤ 1099511627776) := Lib.hid (by omega)
      have HEL := Lib.hid hlen
      have hyn : yn < 256 := by omega
      clear hb hk p1 p2 p3 p4 hlen hE
      go_enter Tryd.func13, Tryd.ntmps13
      go_wp2_with fail
      refine (rballotE _ _ _).mono ?_
      rw [HBB.out]
      rintro e w1 ⟨rfl, hx⟩
      obtain ⟨j0, j1, j2, j3, j4, j5, j6⟩ := seven_cells (heap_ext HT.out hx)
      have HT := Lib.hid (heap_ext HT.out hx)
      have HTB := Lib.hid (heap_ext HTB.out hx)
      have HE := Lib.hid (HE.out.trans hx)
      clear hx
      go_wp2_with fail
      refine (rmay_any _ _ _ _ _ _ _ _).mono ?_
      rw [HK.out]
      rintro e w2 ⟨rfl, hx⟩
      have HT := Lib.hid (heap_ext HT.out hx)
      have HTB := Lib.hid (heap_ext HTB.out hx)
      have HE := Lib.hid (HE.out.trans hx)
      clear hx j0 j1 j2 j3 j4 j5 j6
      obtain ⟨b0, b1⟩ := two_cells HTB.out
      go_wp2_with fail
      refine (rput_yes 6 xn _ (fits_six HF6.out)).mono ?_
      rintro r w3 ⟨A3, k3, rfl, hown, hx⟩
      have hx : Ext w2 w3 := hx
      have HA : Hid (AppS w2 w3 A3 6 k3 (digs 6 xn)) := Lib.hid ⟨hown, hx, digs_lt 6 xn⟩
      have HT := Lib.hid (heap_ext HT.out hx)
      have HTB := Lib.hid (heap_ext HTB.out hx)
      clear hown hx b0 b1
      obtain ⟨b0, b1⟩ := two_cells HTB.out
      have hx := (Ext.refl w3).alloc (.cells #[.int .u8 (yn : Int)] 5)
      have HA := Lib.hid (HA.out.more hx)
      have HT := Lib.hid (heap_ext HT.out hx)
      have HLIT := Lib.hid (By.lit w3 [yn] 5 (by simp; omega) (by simp) (#[.int .u8 yn]) rfl)
      have hsz := HA.out.ext.size
      clear hx
      go_wp2_with (at_builtin; refine wpList_append_by rfl _ _ 29 rfl w2.heap.size 5 i0 Tryd.underlying29 hi hz0 hz1 hz2 _ 6 (vb (digs 6 xn)) rfl HA.out.own _ 1 _ [yn] rfl HLIT.out (by omega) hsz ?_)
      intro v4 w4 hown hg
      obtain ⟨A4, c4, rfl, ha, hm⟩ := HA.out.next hown hg HLIT.out.rd.lt
      have HT := Lib.hid (heap_mod HT.out hm (HA.out.off HT.out (by decide)))
      have HA := Lib.hid ha
      clear hown hg ha hm HLIT b0 b1 hsz
      obtain ⟨j0, j1, j2, j3, j4, j5, j6⟩ := seven_cells HT.out
      go_wp2_with fail
      refine (HC.out _).mono ?_
      rintro e w5 ⟨A5, c5, rfl, hb, hx⟩
      have HB5 := Lib.hid hb
      have HA := Lib.hid (HA.out.more hx)
      have hsz := HA.out.ext.size
      clear hb hx j0 j1 j2 j3 j4 j5 j6
      go_wp2_with (at_builtin; refine wpList_append_by rfl _ _ 29 rfl w2.heap.size 5 i0 Tryd.underlying29 hi hz0 hz1 hz2 _ 7 (vb (digs 6 xn ++ [yn])) rfl HA.out.own _ E.length _ E rfl HB5.out (by have := HEL.out; omega) hsz ?_)
      intro v6 w6 hown hg
      obtain ⟨A6, c6, rfl, ha, hm⟩ := HA.out.next hown hg HB5.out.rd.lt
      have HA := Lib.hid ha
      clear hown hg ha hm hsz
      go_wp2_with fail
      go_ret2
      refine ⟨_, _, ret_slice _ _ HN.out.symm, ?_, HE.out.trans HA.out.ext⟩
      rw [HN.out, HLN.out]
      exact HA.out.by_
end Go.Proofs.YtoapjgkfggggmaaDoor
