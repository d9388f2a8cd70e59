/-
  The contracts of entry's Bytes and Print.
  What is known of slot's table of widths; the contract of slot's may.
  A slice of bytes that came in, opened by the guide's own law, read as a list of numbers.
-/
import Derived.Test.YtejejadbemkifaaDoorQ01
import Derived.Test.YtejejadbemkifaaDoorQ03
import Derived.Test.YtejejadbemkifaaDoorQ04
import Derived.Test.YtejejadbemkifaaDoorQ05
import Derived.Test.YtejejadbemkifaaDoorQ06
import Derived.Test.YtejejadbemkifaaDoorQ07
import Derived.LoopN
import Derived.ProofKit
import Derived.OpenShut
namespace Go.Proofs.YtejejadbemkifaaDoor
set_option maxRecDepth 100000
open Go Go.RowKit

theorem ext_cellE {w w' : World} {p : Addr} {v : Value} (k : Ext w w') (h : w.cell? p = some v) : w'.cell? p = some v := (Below.cell k (World.block_lt_of_cell? w _ h)).trans h
/-- While an entry's parts are put: the entry's cells; what there was at its beginning is as it was. -/
def EBS (W : World) (g : Nat) (cl sq : Int) (ok : Nat) (key old val : ByteArray) (w' : World) : Prop :=
  w'.cell? ⟨g, 1, none⟩ = some (.int .i64 cl) ∧ w'.cell? ⟨g, 2, none⟩ = some (.int .i64 sq) ∧ w'.cell? ⟨g, 3, none⟩ = some (.int .u8 (ok : Int)) ∧ w'.cell? ⟨g, 4, none⟩ = some (.string key) ∧ w'.cell? ⟨g, 5, none⟩ = some (.string old) ∧ w'.cell? ⟨g, 6, none⟩ = some (.string val) ∧ Hid (Ext W w')
theorem EBS.mono {W w w' : World} {g ok : Nat} {cl sq : Int} {key old val : ByteArray} (h : EBS W g cl sq ok key old val w) (k : Ext w w') : EBS W g cl sq ok key old val w' := by
  obtain ⟨h0, h1, h2, h3, h4, h5, hE⟩ := h
  exact ⟨ext_cellE k h0, ext_cellE k h1, ext_cellE k h2, ext_cellE k h3, ext_cellE k h4, ext_cellE k h5, Lib.hid (hE.out.trans k)⟩
theorem EBS.ext {W w : World} {g ok : Nat} {cl sq : Int} {key old val : ByteArray} (h : EBS W g cl sq ok key old val w) : Ext W w := h.2.2.2.2.2.2.out
theorem ret_slice (A : Option Addr) (c : Nat) {n m : Nat} (h : n = m) : Ending.returned (.tuple #[.slice A n c, .int .i64 0]) = Ending.returned (.tuple #[.slice A m c, .int .i64 0]) := by rw [h]
theorem digs_byte {n : Nat} (h : n < 256) : digs 1 n = [n] := by simp [digs]; omega
theorem fits_byte {n : Nat} (h : n < 256) : fitsB (1 : Nat) n = true := fits_iff.2 ⟨rfl, by omega, by simpa using h⟩
theorem fits_six {n : Nat} (h : n ≤ 1099511627776) : fitsB (6 : Nat) n = true := fits_iff.2 ⟨rfl, by omega, by simp; omega⟩
theorem eput1 (n : Nat) (w : World) (hL : Laid w) (hn : n < 256) :
    Calls Tryd.prog 31 #[.int .i64 1, .int .i64 (n : Int)] w fun e w' => ∃ A' c', e = .returned (.slice A' 1 c') ∧ By w' A' 1 c' [n] ∧ Ext w w' := by
  have h := eput_of 1 n w hL (fits_byte hn)
  rw [digs_byte hn] at h
  exact h
theorem eput6 (n : Nat) (w : World) (hL : Laid w) (hn : n ≤ 1099511627776) :
    Calls Tryd.prog 31 #[.int .i64 6, .int .i64 (n : Int)] w fun e w' => ∃ A' c', e = .returned (.slice A' 6 c') ∧ By w' A' 6 c' (digs 6 n) ∧ Ext w w' := eput_of 6 n w hL (fits_six hn)
set_option maxRecDepth 100000 in
set_option maxHeartbeats 1000000 in
theorem bytes_any (k : Nat) (cl sq : Int) (ok : Nat) (key old val : ByteArray) (w : World) (hL : Laid w) (hok : ok < 256) :
    Calls Tryd.prog 30 #[.agg #[.int .u8 (k : Int), .int .i64 cl, .int .i64 sq, .int .u8 (ok : Int), .string key, .string old, .string val]] w fun e w' => ∃ A' c', e = .returned (.tuple #[.slice A' (eL ⟨k, cl, sq, ok, key, old, val⟩).length c', .int .i64 (eR ⟨k, cl, sq, ok, key, old, val⟩)]) ∧ By w' A' (eL ⟨k, cl, sq, ok, key, old, val⟩).length c' (eL ⟨k, cl, sq, ok, key, old, val⟩) ∧ Ext w w' := by
  have hx := (Ext.refl w).alloc (.cells #[.int .u8 (k : Int), .int .i64 cl, .int .i64 sq, .int .u8 (ok : Int), .string key, .string old, .string val] 51)
  have HT := Lib.hid (heap_alloc_new w (.cells #[.int .u8 (k : Int), .int .i64 cl, .int .i64 sq, .int .u8 (ok : Int), .string key, .string old, .string val] 51))
  have HE := Lib.hid hx
  have HL := Lib.hid (hL.ext hx)
  clear hx hL
  cases hk : enOk ⟨k, cl, sq, ok, key, old, val⟩ with
  | false =>
    rw [eL_no hk, eR_no hk]
    have HK := Lib.hid hk
    clear hk
    go_enter Tryd.func30, Tryd.ntmps30
    go_wp2_with fail
    refine (may_any _ _ _ _ _ _ _ _).mono ?_
    rw [HK.out]
    rintro e w1 ⟨rfl, hx⟩
    have HE := Lib.hid (HE.out.trans hx)
    clear hx
    go_wp2_with fail
    go_ret2
    exact ⟨none, 0, rfl, By.nil_ _, HE.out⟩
  | true =>
    rw [eL_yes hk, eR_yes hk]
    have HK := Lib.hid hk
    rcases good_of hk with ⟨h1, hz⟩ | ⟨h2, p1, p2, p3, p4, p5, p6⟩
    · dsimp only at h1
      subst h1
      have hl : enL ⟨1, cl, sq, ok, key, old, val⟩ = [1] := if_pos rfl
      rw [hl]
      clear hk hl hz
      go_enter Tryd.func30, Tryd.ntmps30
      go_wp2_with fail
      refine (may_any _ _ _ _ _ _ _ _).mono ?_
      rw [HK.out]
      rintro e w1 ⟨rfl, hx⟩
      obtain ⟨i0, _⟩ := seven_cells (heap_ext HT.out hx)
      have HT := Lib.hid (heap_ext HT.out hx)
      have HL := Lib.hid (HL.out.ext hx)
      have HE := Lib.hid (HE.out.trans hx)
      clear hx
      go_wp2_with fail
      refine (eput_of 1 1 _ HL.out rfl).mono ?_
      rw [digs_byte (by omega)]
      rintro e w2 ⟨A2, c2, rfl, hb, hx⟩
      have HB := Lib.hid hb
      clear i0
      obtain ⟨i0, _⟩ := seven_cells (heap_ext HT.out hx)
      have HE := Lib.hid (HE.out.trans hx)
      clear hb hx
      go_wp2_with fail
      go_ret2
      exact ⟨A2, c2, rfl, HB.out, HE.out⟩
    · dsimp only at h2 p1 p2 p3 p4 p5 p6
      subst h2
      obtain ⟨cn, rfl⟩ := Int.eq_ofNat_of_zero_le p1
      obtain ⟨sn, rfl⟩ := Int.eq_ofNat_of_zero_le (show 0 ≤ sq by omega)
      have HLN : Hid (enL ⟨2, (cn : Int), (sn : Int), ok, key, old, val⟩ = [2] ++ [cn] ++ digs 6 sn ++ ([ok] ++ tx key ++ tx old ++ tx val)) := Lib.hid (by
        unfold enL
        rw [if_neg (by simp)]
        dsimp only
        rw [Int.toNat_natCast, Int.toNat_natCast]
        simp)
      have HN : Hid ((enL ⟨2, (cn : Int), (sn : Int), ok, key, old, val⟩).length = 1 + 1 + 6 + (1 + (key.size + 1) + (old.size + 1) + (val.size + 1))) := Lib.hid (by
        rw [HLN.out]
        simp only [List.length_append, List.length_cons, List.length_nil, digs_length, tx_length]
        omega)
      have HF1 : Hid (cn < 256) := Lib.hid (by omega)
      have HF6 : Hid (sn ≤ 1099511627776) := Lib.hid (by omega)
      have HS : Hid (key.size ≤ 255 ∧ old.size ≤ 255 ∧ val.size ≤ 255 ∧ ok < 256) := Lib.hid ⟨by omega, by omega, by omega, hok⟩
      clear hk p1 p2 p3 p4 p5 p6 hok
      go_enter Tryd.func30, Tryd.ntmps30
      go_wp2_with fail
      refine (may_any _ _ _ _ _ _ _ _).mono ?_
      rw [HK.out]
      rintro e w1 ⟨rfl, hx⟩
      obtain ⟨i0, _⟩ := seven_cells (heap_ext HT.out hx)
      have HT := Lib.hid (heap_ext HT.out hx)
      have HL := Lib.hid (HL.out.ext hx)
      have HE := Lib.hid (HE.out.trans hx)
      clear hx
      go_wp2_with fail
      refine (eput_of 1 2 _ HL.out rfl).mono ?_
      rw [digs_byte (by omega)]
      rintro e w2 ⟨A2, c2, rfl, hb, hx⟩
      have HB := Lib.hid hb
      have HL := Lib.hid (HL.out.ext hx)
      have HE := Lib.hid (HE.out.trans hx)
      clear i0
      obtain ⟨i0, i1, i2, i3, i4, i5, i6⟩ := seven_cells (heap_ext HT.out hx)
      clear hb hx
      go_wp2_with fail
      clear i0
      generalize w.heap.size = g at *
      have hS : EBS w2 g cn sn ok key old val w2 := ⟨i1, i2, i3, i4, i5, i6, Lib.hid (Ext.refl _)⟩
      have hS := hS.mono ((Ext.refl w2).drew)
      clear i1 i2 i3 i4 i5 i6
      go_region_held3 (fun w' => w'.cell? ⟨g, 1, none⟩ = some (.int .i64 (cn : Int)) ∧ w'.cell? ⟨g, 2, none⟩ = some (.int .i64 (sn : Int)) ∧ w'.cell? ⟨g, 3, none⟩ = some (.int .u8 (ok : Int)) ∧ w'.cell? ⟨g, 4, none⟩ = some (.string key) ∧ w'.cell? ⟨g, 5, none⟩ = some (.string old) ∧ w'.cell? ⟨g, 6, none⟩ = some (.string val) ∧ Hid (Ext w2 w'))
        (first | assumption | exact hS | exact EBS.mono (by assumption) hx | exact EBS.mono (by assumption) ((Ext.refl _).alloc _))
        (first
          | (go_at_call 31; ((with_reducible refine (eput1 cn _ ?_ HF1.out).mono ?_); (exact HL.out.ext (EBS.ext (g := g) (cl := cn) (sq := sn) (ok := ok) (key := key) (old := old) (val := val) (by assumption))); rintro r w3 ⟨A3, c3, rfl, hb, hx⟩; have HB3 := Lib.hid hb; have HX3 := Lib.hid hx; clear hb))
          | (go_at_call 31; ((with_reducible refine (eput6 sn _ ?_ HF6.out).mono ?_); (exact HL.out.ext (EBS.ext (g := g) (cl := cn) (sq := sn) (ok := ok) (key := key) (old := old) (val := val) (by assumption))); rintro r w4 ⟨A4, c4, rfl, hb, hx⟩; have HB4 := Lib.hid hb; have HX4 := Lib.hid hx; clear hb))
          | (go_at_call 37; ((with_reducible refine (putOp_of ok key old val _ ?_ HS.out.2.2.2 HS.out.1 HS.out.2.1 HS.out.2.2.1).mono ?_); (exact HL.out.ext (EBS.ext (g := g) (cl := cn) (sq := sn) (ok := ok) (key := key) (old := old) (val := val) (by assumption))); rintro r w5 ⟨A5, c5, rfl, hb, hx⟩; have HB5 := Lib.hid hb; have HX5 := Lib.hid hx; have hS5 := EBS.mono (W := w2) (g := g) (cl := cn) (sq := sn) (ok := ok) (key := key) (old := old) (val := val) (by assumption) hx; clear hb))
          | (go_at_call 14; (refine (join4e w5 (HB.out.ext (((Ext.refl w2).drew.trans HX3.out).trans (HX4.out.trans HX5.out))) (HB3.out.ext (HX4.out.trans HX5.out)) (HB4.out.ext HX5.out) HB5.out (by have := HS.out; omega)).mono ?_); rintro r w6 ⟨A6, c6, rfl, hb, hx⟩; have HB6 := Lib.hid hb; have HX6 := Lib.hid hx; have hS6 := hS5.mono hx; clear hb hx))
      have HF := Lib.hid (HE.out.trans hS6.ext)
      have HB6 : Hid (By w6 A6 (1 + 1 + 6 + (1 + (key.size + 1) + (old.size + 1) + (val.size + 1))) c6 _) := HB6
      clear hS5 hS6 hS
      go_wp2_with fail
      go_ret2
      refine ⟨A6, c6, ?_, ?_, HF.out⟩
      · exact ret_slice _ _ (by rw [HN.out])
      · rw [HN.out, HLN.out]
        exact HB6.out
/-- While a body's parts are put. -/
def EPS (W : World) (g : Nat) (x y : Int) (w' : World) : Prop :=
  w'.cell? ⟨g, 0, none⟩ = some (.int .i64 x) ∧ w'.cell? ⟨g, 1, none⟩ = some (.int .i64 y) ∧ Hid (Ext W w')
theorem EPS.mono {W w w' : World} {g : Nat} {x y : Int} (h : EPS W g x y w) (k : Ext w w') : EPS W g x y w' := by
  obtain ⟨h0, h1, hE⟩ := h
  exact ⟨ext_cellE k h0, ext_cellE k h1, Lib.hid (hE.out.trans k)⟩
theorem EPS.ext {W w : World} {g : Nat} {x y : Int} (h : EPS W g x y w) : Ext W w := h.2.2.out
theorem two_cells {w : World} {g : Nat} {x0 x1 : Value} {t : TypeId} (h : w.heap[g]? = some (.cells #[x0, x1] t (0, 0))) :
    w.cell? ⟨g, 0, none⟩ = some x0 ∧ w.cell? ⟨g, 1, none⟩ = some x1 := ⟨cell_of_row w g 0 _ _ _ h, cell_of_row w g 1 _ _ _ h⟩
set_option maxRecDepth 100000 in
set_option maxHeartbeats 1000000 in
theorem print_any (x y : Int) (k : Nat) (cl sq : Int) (ok : Nat) (key old val : ByteArray) (w : World) (hL : Laid w) (hok : ok < 256) :
    Calls Tryd.prog 21 #[.agg #[.int .i64 x, .int .i64 y], .agg #[.int .u8 (k : Int), .int .i64 cl, .int .i64 sq, .int .u8 (ok : Int), .string key, .string old, .string val]] w fun e w' => ∃ A' c', e = .returned (.tuple #[.slice A' (pL x y ⟨k, cl, sq, ok, key, old, val⟩).length c', .int .i64 (pR x y ⟨k, cl, sq, ok, key, old, val⟩)]) ∧ By w' A' (pL x y ⟨k, cl, sq, ok, key, old, val⟩).length c' (pL x y ⟨k, cl, sq, ok, key, old, val⟩) ∧ Ext w w' := by
  have hx1 := (Ext.refl w).alloc (.cells #[.int .i64 x, .int .i64 y] 23)
  have hx2 := (Ext.refl (w.alloc (.cells #[.int .i64 x, .int .i64 y] 23))).alloc (.cells #[.int .u8 (k : Int), .int .i64 cl, .int .i64 sq, .int .u8 (ok : Int), .string key, .string old, .string val] 51)
  have HTB := Lib.hid (heap_ext (heap_alloc_new w (.cells #[.int .i64 x, .int .i64 y] 23)) hx2)
  have HT := Lib.hid (heap_alloc2_new w (.cells #[.int .i64 x, .int .i64 y] 23) (.cells #[.int .u8 (k : Int), .int .i64 cl, .int .i64 sq, .int .u8 (ok : Int), .string key, .string old, .string val] 51))
  have HE := Lib.hid (hx1.trans hx2)
  have HL := Lib.hid (hL.ext (hx1.trans hx2))
  clear hx1 hx2 hL
  cases hb : balE x y with
  | false =>
    rw [pL_nob hb, pR_nob hb]
    have HB := Lib.hid hb
    clear hb
    go_enter Tryd.func21, Tryd.ntmps21
    go_wp2_with fail
    refine (mayBallot_any _ _ _).mono ?_
    rw [HB.out]
    rintro e w1 ⟨rfl, hx⟩
    have HE := Lib.hid (HE.out.trans hx)
    clear hx
    go_wp2_with fail
    go_ret2
    exact ⟨none, 0, rfl, By.nil_ _, HE.out⟩
  | true =>
    have HBB := Lib.hid hb
    have HC := Lib.hid (fun V hV => bytes_any k cl sq ok key old val V hV hok)
    cases hk : enOk ⟨k, cl, sq, ok, key, old, val⟩ with
    | false =>
      rw [pL_no hk, pR_no hk]
      rw [eL_no hk, eR_no hk] at HC
      clear hb hk
      go_enter Tryd.func21, Tryd.ntmps21
      go_wp2_with fail
      refine (mayBallot_any _ _ _).mono ?_
      rw [HBB.out]
      rintro e w1 ⟨rfl, hx⟩
      obtain ⟨i0, i1, i2, i3, i4, i5, i6⟩ := seven_cells (heap_ext HT.out hx)
      have HE := Lib.hid (HE.out.trans hx)
      have HL := Lib.hid (HL.out.ext hx)
      clear hx
      go_wp2_with fail
      refine (HC.out _ HL.out).mono ?_
      rintro e w2 ⟨A2, c2, rfl, _, hx⟩
      have HE := Lib.hid (HE.out.trans hx)
      clear hx i0 i1 i2 i3 i4 i5 i6
      go_wp2_with fail
      go_ret2
      exact ⟨none, 0, rfl, By.nil_ _, HE.out⟩
    | true =>
      rw [pL_yes hb hk, pR_yes hb hk]
      rw [eL_yes hk, eR_yes hk] at HC
      obtain ⟨p1, p2, p3, p4⟩ := balE_iff.1 hb
      obtain ⟨xn, rfl⟩ := Int.eq_ofNat_of_zero_le (show 0 ≤ x by omega)
      obtain ⟨yn, rfl⟩ := Int.eq_ofNat_of_zero_le p3
      have hlen := enL_len hk
      have HLN : Hid (bodyL (xn : Int) (yn : Int) ⟨k, cl, sq, ok, key, old, val⟩ = digs 6 xn ++ [yn] ++ enL ⟨k, cl, sq, ok, key, old, val⟩) := Lib.hid rfl
      generalize hE : enL ⟨k, cl, sq, ok, key, old, val⟩ = E at *
      have HN : Hid ((bodyL (xn : Int) (yn : Int) ⟨k, cl, sq, ok, key, old, val⟩).length = 6 + 1 + E.length) := Lib.hid (by
        rw [HLN.out]
        simp only [List.length_append, List.length_cons, List.length_nil, digs_length])
      have HF1 : Hid (yn < 256) := Lib.hid (by omega)
      have HF6 : Hid (xn ≤ 1099511627776) := Lib.hid (by omega)
      have HEL := Lib.hid hlen
      clear hb hk p1 p2 p3 p4 hlen hE
      go_enter Tryd.func21, Tryd.ntmps21
      go_wp2_with fail
      refine (mayBallot_any _ _ _).mono ?_
      rw [HBB.out]
      rintro e w1 ⟨rfl, hx⟩
      obtain ⟨i0, i1, i2, i3, i4, i5, i6⟩ := seven_cells (heap_ext HT.out hx)
      have HTB := Lib.hid (heap_ext HTB.out hx)
      have HE := Lib.hid (HE.out.trans hx)
      have HL := Lib.hid (HL.out.ext hx)
      clear hx
      go_wp2_with fail
      refine (HC.out _ HL.out).mono ?_
      rintro e w2 ⟨A2, c2, rfl, hb, hx⟩
      have HB := Lib.hid hb
      have HE := Lib.hid (HE.out.trans hx)
      have HL := Lib.hid (HL.out.ext hx)
      clear i0 i1 i2 i3 i4 i5 i6
      obtain ⟨i0, i1⟩ := two_cells (heap_ext HTB.out hx)
      clear hx hb
      go_wp2_with fail
      generalize w.heap.size = g at *
      have hS : EPS w2 g xn yn w2 := ⟨i0, i1, Lib.hid (Ext.refl _)⟩
      have hS := hS.mono ((Ext.refl w2).drew)
      clear i0 i1
      go_region_held3 (fun w' => w'.cell? ⟨g, 0, none⟩ = some (.int .i64 (xn : Int)) ∧ w'.cell? ⟨g, 1, none⟩ = some (.int .i64 (yn : Int)) ∧ Hid (Ext w2 w'))
        (first | assumption | exact hS | exact EPS.mono (by assumption) hx | exact EPS.mono (by assumption) ((Ext.refl _).alloc _))
        (first
          | (go_at_call 31; ((with_reducible refine (eput6 xn _ ?_ HF6.out).mono ?_); (exact HL.out.ext (EPS.ext (g := g) (x := xn) (y := yn) (by assumption))); rintro r w3 ⟨A3, c3, rfl, hb, hx⟩; have HB3 := Lib.hid hb; have HX3 := Lib.hid hx; clear hb))
          | (go_at_call 31; ((with_reducible refine (eput1 yn _ ?_ HF1.out).mono ?_); (exact HL.out.ext (EPS.ext (g := g) (x := xn) (y := yn) (by assumption))); rintro r w4 ⟨A4, c4, rfl, hb, hx⟩; have HB4 := Lib.hid hb; have HX4 := Lib.hid hx; have hS4 := EPS.mono (W := w2) (g := g) (x := xn) (y := yn) (by assumption) hx; clear hb))
          | (go_at_call 14; (refine (join3_by w4 (HB3.out.ext HX4.out) HB4.out (HB.out.ext (((Ext.refl w2).drew.trans HX3.out).trans HX4.out)) (by have := HEL.out; omega)).mono ?_); rintro r w6 ⟨A6, c6, rfl, hb, hx⟩; have HB6 := Lib.hid hb; have HX6 := Lib.hid hx; have hS6 := hS4.mono hx; clear hb hx))
      have HF := Lib.hid (HE.out.trans hS6.ext)
      clear hS4 hS6 hS
      go_wp2_with fail
      go_ret2
      refine ⟨A6, c6, ?_, ?_, HF.out⟩
      · exact ret_slice _ _ (by rw [HN.out])
      · rw [HN.out, HLN.out]
        exact HB6.out
end Go.Proofs.YtejejadbemkifaaDoor

namespace Go.Proofs.YtejejadbemkifaaDoor
set_option maxRecDepth 100000
open Go Go.RowKit

/-- The table of the widths of a record's body. -/
def LaidT3 (w : World) : Prop := w.cell? ⟨0, 0, none⟩ = some (.int .i64 6) ∧ w.cell? ⟨0, 1, none⟩ = some (.int .i64 1) ∧ w.cell? ⟨0, 2, none⟩ = some (.int .i64 1)
structure LaidS (w : World) : Prop where
  o : Laid w
  t : LaidT3 w
theorem LaidT3.ext {a b : World} (h : LaidT3 a) (k : Ext a b) : LaidT3 b := by
  have hlt : 0 < a.heap.size := World.block_lt_of_cell? a _ h.1
  obtain ⟨h0, h1, h2⟩ := h
  exact ⟨(Below.cell k (p := ⟨0, 0, none⟩) hlt).trans h0, (Below.cell k (p := ⟨0, 1, none⟩) hlt).trans h1, (Below.cell k (p := ⟨0, 2, none⟩) hlt).trans h2⟩
theorem LaidS.ext {a b : World} (h : LaidS a) (k : Ext a b) : LaidS b := ⟨h.o.ext k, h.t.ext k⟩
theorem isFrame_any (h : Int) (w : World) : Calls Tryd.prog 22 #[.int .i64 h] w fun e w' => e = .returned (.bool (h == 0 || h == 1)) ∧ w' = w := by
  obtain ⟨b, hb⟩ : ∃ b, (h == 0) = b := ⟨_, rfl⟩
  obtain ⟨c, hc⟩ : ∃ c, (h == 1) = c := ⟨_, rfl⟩
  rw [hb, hc]
  cases b <;>
  · go_enter Tryd.func22, Tryd.ntmps22
    go_wp2
    go_ret
    exact ⟨rfl, rfl⟩
theorem noop_print (x y : Int) (w : World) (hL : Laid w) :
    Calls Tryd.prog 21 #[.agg #[.int .i64 x, .int .i64 y], .agg #[.int .u8 1, .int .i64 0, .int .i64 0, .int .u8 0, .string ⟨#[]⟩, .string ⟨#[]⟩, .string ⟨#[]⟩]] w fun e w' => ∃ A' n c', e = .returned (.tuple #[.slice A' n c', .int .i64 (if balE x y = true then 0 else 2)]) ∧ Ext w w' := by
  have hn : enOk ⟨1, 0, 0, 0, ⟨#[]⟩, ⟨#[]⟩, ⟨#[]⟩⟩ = true := enOk_iff.2 (.inl ⟨rfl, rfl, rfl, rfl, rfl, rfl, rfl⟩)
  have hr : pR x y ⟨1, 0, 0, 0, ⟨#[]⟩, ⟨#[]⟩, ⟨#[]⟩⟩ = (if balE x y = true then 0 else 2) := by unfold pR; simp [hn]
  refine (print_any x y 1 0 0 0 ⟨#[]⟩ ⟨#[]⟩ ⟨#[]⟩ w hL (by omega)).mono ?_
  rintro e w' ⟨A', c', he, _, hx⟩
  exact ⟨A', _, c', by rw [he, hr], hx⟩
set_option maxRecDepth 100000 in
theorem may_of (x y h : Int) (w : World) (hL : Laid w) : Calls Tryd.prog 12 #[.agg #[.int .i64 x, .int .i64 y], .int .i64 h] w fun e w' => e = .returned (.bool (recB x y h)) ∧ Ext w w' := by
  have hE := (Ext.refl w).alloc (.cells #[.int .i64 x, .int .i64 y] 23)
  have HP := Lib.hid (noop_print x y _ (hL.ext hE))
  have HE := Lib.hid hE
  have HF := Lib.hid (isFrame_any h)
  have hr : recB x y h = (balE x y && (h == 0 || h == 1)) := by
    unfold recB
    congr 1
    rw [Bool.eq_iff_iff, decide_eq_true_iff, Bool.or_eq_true, beq_iff_eq, beq_iff_eq]
  rw [hr]
  clear hE hL hr
  cases hb : balE x y with
  | true =>
    rw [hb] at HP
    simp only [if_true] at HP
    clear hb
    go_enter Tryd.func12, Tryd.ntmps12
    go_wp2_with fail
    refine HP.out.mono ?_
    rintro e w1 ⟨A', n, c', rfl, hx⟩
    have HX := Lib.hid (HE.out.trans hx)
    clear hx
    go_wp2_with fail
    refine (HF.out _).mono ?_
    rintro e w2 ⟨rfl, rfl⟩
    go_wp2_with fail
    go_ret
    exact ⟨rfl, HX.out⟩
  | false =>
    rw [hb] at HP
    simp only [if_false, Bool.false_eq_true] at HP
    clear hb
    go_enter Tryd.func12, Tryd.ntmps12
    go_wp2_with fail
    refine HP.out.mono ?_
    rintro e w1 ⟨A', n, c', rfl, hx⟩
    have HX := Lib.hid (HE.out.trans hx)
    clear hx
    go_wp2_with fail
    go_ret
    exact ⟨rfl, HX.out⟩
end Go.Proofs.YtejejadbemkifaaDoor

namespace Go.Proofs.YtejejadbemkifaaDoor
set_option maxRecDepth 100000
open Go Go.RowKit Go.ChangeShapes Go.WideShapes

theorem bs_of_row {w : World} {x : Addr} {n c : Nat} {zs : List Int} (hl : n ≤ c) (hm : c ≤ maxLen) (hz : zs.length = c) (hcell : ∀ i, i < zs.length → w.cell? (x.add i) = some (.int .u8 (zs.getD i 0))) (hwz : ∀ z ∈ zs, (Lit.int .u8 z).wf = true) :
    Bs w w.heap.size (some x) n c ((zs.take n).map Int.toNat) := by
  have hb : ∀ z ∈ zs, 0 ≤ z ∧ z < 256 := by
    intro z hzm
    have := bounds_u8 (hwz z hzm)
    omega
  refine ⟨by simp [hz, hl], hl, by unfold maxLen at hm; exact hm, ⟨?_, ?_⟩, fun h => by cases h⟩
  · intro b hbm
    simp only [List.mem_map] at hbm
    obtain ⟨z, hzm, rfl⟩ := hbm
    have := hb z (List.mem_of_mem_take hzm)
    omega
  · intro h0
    have hn : 0 < n := by
      rw [List.length_map, List.length_take] at h0
      omega
    obtain ⟨g, o, spot⟩ := x
    have hc := hcell 0 (by omega)
    have hspot : spot = none := by simpa [Addr.add] using World.cell?_spot hc
    subst hspot
    refine ⟨g, o, rfl, ?_, fun j y hy => ?_⟩
    · have := World.block_lt_of_cell? w _ hc
      simpa [Addr.add] using this
    · rw [List.getElem?_map] at hy
      obtain ⟨z, hzj, rfl⟩ := Option.map_eq_some_iff.1 hy
      have hjn : j < n ∧ zs[j]? = some z := by
        rw [List.getElem?_take] at hzj
        split at hzj
        · exact ⟨by assumption, hzj⟩
        · cases hzj
      have hzb := hb z (List.mem_of_getElem? hjn.2)
      have h2 := hcell j (by omega)
      rw [Addr.add_lit] at h2
      rw [h2, List.getD_eq_getElem?_getD, hjn.2]
      simp only [Option.getD_some]
      rw [Int.toNat_of_nonneg hzb.1]
end Go.Proofs.YtejejadbemkifaaDoor
