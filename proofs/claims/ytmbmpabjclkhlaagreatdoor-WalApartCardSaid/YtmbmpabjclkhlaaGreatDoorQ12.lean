/-
  The contracts of entry's Bytes and Print.
-/
import Derived.Test.YtmbmpabjclkhlaaGreatDoorQ00
import Derived.Test.YtmbmpabjclkhlaaGreatDoorQ01
import Derived.Test.YtmbmpabjclkhlaaGreatDoorQ02
import Derived.Test.YtmbmpabjclkhlaaGreatDoorQ05
import Derived.Test.YtmbmpabjclkhlaaGreatDoorQ06
import Derived.Test.YtmbmpabjclkhlaaGreatDoorQ07
import Derived.Test.YtmbmpabjclkhlaaGreatDoorQ08
import Derived.Test.YtmbmpabjclkhlaaGreatDoorQ09
import Derived.Test.YtmbmpabjclkhlaaGreatDoorQ10
import Derived.Test.YtmbmpabjclkhlaaGreatDoorQ11
import Derived.LoopN
import Derived.ChangeMaps5
import Derived.Test.YtmbmpabjclkhlaaGreatDoorProg
import Derived.Stop.LaidErr
namespace Go.Proofs.YtmbmpabjclkhlaaGreatDoor
set_option maxRecDepth 100000
section
open Go Go.RowKit
theorem ext_cellE {w w' : World} {p : Addr} {v : Value} (k : Ext w w') (h : w.cell? p = some v) : w'.cell? p = some v := (Below.cell k (World.block_lt_of_cell? w _ h)).trans h
def EBS (W : World) (g : Nat) (cl sq : Int) (ok : Nat) (key old val : ByteArray) (w' : World) : Prop :=
  w'.cell? ⟨g, 1, none⟩ = some (.int .i64 cl) ∧ w'.cell? ⟨g, 2, none⟩ = some (.int .i64 sq) ∧ w'.cell? ⟨g, 3, none⟩ = some (.int .u8 (ok : Int)) ∧ w'.cell? ⟨g, 4, none⟩ = some (.string key) ∧ w'.cell? ⟨g, 5, none⟩ = some (.string old) ∧ w'.cell? ⟨g, 6, none⟩ = some (.string val) ∧ Hid (Ext W w')
theorem EBS.mono {W w w' : World} {g ok : Nat} {cl sq : Int} {key old val : ByteArray} (h : EBS W g cl sq ok key old val w) (k : Ext w w') : EBS W g cl sq ok key old val w' := by
  obtain ⟨h0, h1, h2, h3, h4, h5, hE⟩ := h
  exact ⟨ext_cellE k h0, ext_cellE k h1, ext_cellE k h2, ext_cellE k h3, ext_cellE k h4, ext_cellE k h5, Lib.hid (hE.out.trans k)⟩
theorem EBS.ext {W w : World} {g ok : Nat} {cl sq : Int} {key old val : ByteArray} (h : EBS W g cl sq ok key old val w) : Ext W w := h.2.2.2.2.2.2.out
theorem ret_slice (A : Option Addr) (c : Nat) {n m : Nat} (h : n = m) : Ending.returned (.tuple #[.slice A n c, .int .i64 0]) = Ending.returned (.tuple #[.slice A m c, .int .i64 0]) := by rw [h]
theorem digs_byte {n : Nat} (h : n < 256) : digs 1 n = [n] := by simp [digs]; omega
theorem fits_byte {n : Nat} (h : n < 256) : fitsB (1 : Nat) n = true := fits_iff.2 ⟨rfl, by omega, by simpa using h⟩
theorem fits_six {n : Nat} (h : n ≤ 1099511627776) : fitsB (6 : Nat) n = true := fits_iff.2 ⟨rfl, by omega, by simp; omega⟩
theorem eput1 (n : Nat) (w : World) (hL : Laid w) (hn : n < 256) :
    Calls Tryz.prog 140 #[.int .i64 1, .int .i64 (n : Int)] w fun e w' => ∃ A' c', e = .returned (.slice A' 1 c') ∧ By w' A' 1 c' [n] ∧ Ext w w' := by
  have h := eput_of 1 n w hL (fits_byte hn)
  rw [digs_byte hn] at h
  exact h
theorem eput6 (n : Nat) (w : World) (hL : Laid w) (hn : n ≤ 1099511627776) :
    Calls Tryz.prog 140 #[.int .i64 6, .int .i64 (n : Int)] w fun e w' => ∃ A' c', e = .returned (.slice A' 6 c') ∧ By w' A' 6 c' (digs 6 n) ∧ Ext w w' := eput_of 6 n w hL (fits_six hn)
set_option maxHeartbeats 1000000 in
theorem bytes_any (k : Nat) (cl sq : Int) (ok : Nat) (key old val : ByteArray) (w : World) (hL : Laid w) (hok : ok < 256) :
    Calls Tryz.prog 138 #[.agg #[.int .u8 (k : Int), .int .i64 cl, .int .i64 sq, .int .u8 (ok : Int), .string key, .string old, .string val]] w fun e w' => ∃ A' c', e = .returned (.tuple #[.slice A' (eL ⟨k, cl, sq, ok, key, old, val⟩).length c', .int .i64 (eR ⟨k, cl, sq, ok, key, old, val⟩)]) ∧ By w' A' (eL ⟨k, cl, sq, ok, key, old, val⟩).length c' (eL ⟨k, cl, sq, ok, key, old, val⟩) ∧ Ext w w' := by
  have hx := (Ext.refl w).alloc (.cells #[.int .u8 (k : Int), .int .i64 cl, .int .i64 sq, .int .u8 (ok : Int), .string key, .string old, .string val] 42)
  have HT := Lib.hid (heap_alloc_new w (.cells #[.int .u8 (k : Int), .int .i64 cl, .int .i64 sq, .int .u8 (ok : Int), .string key, .string old, .string val] 42))
  have HE := Lib.hid hx
  have HL := Lib.hid (hL.ext hx)
  clear hx hL
  cases hk : enOk ⟨k, cl, sq, ok, key, old, val⟩ with
  | false =>
    rw [eL_no hk, eR_no hk]
    have HK := Lib.hid hk
    clear hk
    go_enter Tryz.func138, Tryz.ntmps138
    go_wp2_with fail
    refine (mayE_any _ _ _ _ _ _ _ _).mono ?_
    rw [HK.out]
    rintro e w1 ⟨rfl, hx⟩
    have HE := Lib.hid (HE.out.trans hx)
    clear hx
    go_wp2_with fail
    go_ret2
    exact ⟨none, 0, rfl, By.nil_ _, HE.out⟩
  | true =>
    rw [eL_yes hk, eR_yes hk]
    have HK := Lib.hid hk
    rcases good_of hk with ⟨h1, hz⟩ | ⟨h2, p1, p2, p3, p4, p5, p6⟩
    · dsimp only at h1
      subst h1
      have hl : enL ⟨1, cl, sq, ok, key, old, val⟩ = [1] := if_pos rfl
      rw [hl]
      clear hk hl hz
      go_enter Tryz.func138, Tryz.ntmps138
      go_wp2_with fail
      refine (mayE_any _ _ _ _ _ _ _ _).mono ?_
      rw [HK.out]
      rintro e w1 ⟨rfl, hx⟩
      obtain ⟨i0, _⟩ := seven_cells (heap_extE HT.out hx)
      have HT := Lib.hid (heap_extE HT.out hx)
      have HL := Lib.hid (HL.out.ext hx)
      have HE := Lib.hid (HE.out.trans hx)
      clear hx
      go_wp2_with fail
      refine (eput_of 1 1 _ HL.out rfl).mono ?_
      rw [digs_byte (by omega)]
      rintro e w2 ⟨A2, c2, rfl, hb, hx⟩
      have HB := Lib.hid hb
      clear i0
      obtain ⟨i0, _⟩ := seven_cells (heap_extE HT.out hx)
      have HE := Lib.hid (HE.out.trans hx)
      clear hb hx
      go_wp2_with fail
      go_ret2
      exact ⟨A2, c2, rfl, HB.out, HE.out⟩
    · dsimp only at h2 p1 p2 p3 p4 p5 p6
      subst h2
      obtain ⟨cn, rfl⟩ := Int.eq_ofNat_of_zero_le p1
      obtain ⟨sn, rfl⟩ := Int.eq_ofNat_of_zero_le (show 0 ≤ sq by omega)
      have HLN : Hid (enL ⟨2, (cn : Int), (sn : Int), ok, key, old, val⟩ = [2] ++ [cn] ++ digs 6 sn ++ ([ok] ++ tx key ++ tx old ++ tx val)) := Lib.hid (by
        unfold enL
        rw [if_neg (by simp)]
        dsimp only
        rw [Int.toNat_natCast, Int.toNat_natCast]
        simp)
      have HN : Hid ((enL ⟨2, (cn : Int), (sn : Int), ok, key, old, val⟩).length = 1 + 1 + 6 + (1 + (key.size + 1) + (old.size + 1) + (val.size + 1))) := Lib.hid (by
        rw [HLN.out]
        simp only [List.length_append, List.length_cons, List.length_nil, digs_length, tx_length]
        omega)
      have HF1 : Hid (cn < 256) := Lib.hid (by omega)
      have HF6 : Hid (sn ≤ 1099511627776) := Lib.hid (by omega)
      have HS : Hid (key.size ≤ 255 ∧ old.size ≤ 255 ∧ val.size ≤ 255 ∧ ok < 256) := Lib.hid ⟨by omega, by omega, by omega, hok⟩
      clear hk p1 p2 p3 p4 p5 p6 hok
      go_enter Tryz.func138, Tryz.ntmps138
      go_wp2_with fail
      refine (mayE_any _ _ _ _ _ _ _ _).mono ?_
      rw [HK.out]
      rintro e w1 ⟨rfl, hx⟩
      obtain ⟨i0, _⟩ := seven_cells (heap_extE HT.out hx)
      have HT := Lib.hid (heap_extE HT.out hx)
      have HL := Lib.hid (HL.out.ext hx)
      have HE := Lib.hid (HE.out.trans hx)
      clear hx
      go_wp2_with fail
      refine (eput_of 1 2 _ HL.out rfl).mono ?_
      rw [digs_byte (by omega)]
      rintro e w2 ⟨A2, c2, rfl, hb, hx⟩
      have HB := Lib.hid hb
      have HL := Lib.hid (HL.out.ext hx)
      have HE := Lib.hid (HE.out.trans hx)
      clear i0
      obtain ⟨i0, i1, i2, i3, i4, i5, i6⟩ := seven_cells (heap_extE HT.out hx)
      clear hb hx
      go_wp2_with fail
      clear i0
      generalize w.heap.size = g at *
      have hS : EBS w2 g cn sn ok key old val w2 := ⟨i1, i2, i3, i4, i5, i6, Lib.hid (Ext.refl _)⟩
      have hS := hS.mono ((Ext.refl w2).drew)
      clear i1 i2 i3 i4 i5 i6
      go_region_held3 (fun w' => w'.cell? ⟨g, 1, none⟩ = some (.int .i64 (cn : Int)) ∧ w'.cell? ⟨g, 2, none⟩ = some (.int .i64 (sn : Int)) ∧ w'.cell? ⟨g, 3, none⟩ = some (.int .u8 (ok : Int)) ∧ w'.cell? ⟨g, 4, none⟩ = some (.string key) ∧ w'.cell? ⟨g, 5, none⟩ = some (.string old) ∧ w'.cell? ⟨g, 6, none⟩ = some (.string val) ∧ Hid (Ext w2 w'))
        (first | assumption | exact hS | exact EBS.mono (by assumption) hx | exact EBS.mono (by assumption) ((Ext.refl _).alloc _))
        (first
          | (go_at_call 140; ((with_reducible refine (eput1 cn _ ?_ HF1.out).mono ?_); (exact HL.out.ext (EBS.ext (g := g) (cl := cn) (sq := sn) (ok := ok) (key := key) (old := old) (val := val) (by assumption))); rintro r w3 ⟨A3, c3, rfl, hb, hx⟩; have HB3 := Lib.hid hb; have HX3 := Lib.hid hx; clear hb))
          | (go_at_call 140; ((with_reducible refine (eput6 sn _ ?_ HF6.out).mono ?_); (exact HL.out.ext (EBS.ext (g := g) (cl := cn) (sq := sn) (ok := ok) (key := key) (old := old) (val := val) (by assumption))); rintro r w4 ⟨A4, c4, rfl, hb, hx⟩; have HB4 := Lib.hid hb; have HX4 := Lib.hid hx; clear hb))
          | (go_at_call 215; ((with_reducible refine (putOp_of ok key old val _ ?_ HS.out.2.2.2 HS.out.1 HS.out.2.1 HS.out.2.2.1).mono ?_); (exact HL.out.ext (EBS.ext (g := g) (cl := cn) (sq := sn) (ok := ok) (key := key) (old := old) (val := val) (by assumption))); rintro r w5 ⟨A5, c5, rfl, hb, hx⟩; have HB5 := Lib.hid hb; have HX5 := Lib.hid hx; have hS5 := EBS.mono (W := w2) (g := g) (cl := cn) (sq := sn) (ok := ok) (key := key) (old := old) (val := val) (by assumption) hx; clear hb))
          | (go_at_call 139; (refine (join4e w5 (HB.out.ext (((Ext.refl w2).drew.trans HX3.out).trans (HX4.out.trans HX5.out))) (HB3.out.ext (HX4.out.trans HX5.out)) (HB4.out.ext HX5.out) HB5.out (by have := HS.out; omega)).mono ?_); rintro r w6 ⟨A6, c6, rfl, hb, hx⟩; have HB6 := Lib.hid hb; have HX6 := Lib.hid hx; have hS6 := hS5.mono hx; clear hb hx))
      have HF := Lib.hid (HE.out.trans hS6.ext)
      have HB6 : Hid (By w6 A6 (1 + 1 + 6 + (1 + (key.size + 1) + (old.size + 1) + (val.size + 1))) c6 _) := HB6
      clear hS5 hS6 hS
      go_wp2_with fail
      go_ret2
      refine ⟨A6, c6, ?_, ?_, HF.out⟩
      · exact ret_slice _ _ (by rw [HN.out])
      · rw [HN.out, HLN.out]
        exact HB6.out
def EPS (W : World) (g : Nat) (x y : Int) (w' : World) : Prop :=
  w'.cell? ⟨g, 0, none⟩ = some (.int .i64 x) ∧ w'.cell? ⟨g, 1, none⟩ = some (.int .i64 y) ∧ Hid (Ext W w')
theorem EPS.mono {W w w' : World} {g : Nat} {x y : Int} (h : EPS W g x y w) (k : Ext w w') : EPS W g x y w' := by
  obtain ⟨h0, h1, hE⟩ := h
  exact ⟨ext_cellE k h0, ext_cellE k h1, Lib.hid (hE.out.trans k)⟩
theorem EPS.ext {W w : World} {g : Nat} {x y : Int} (h : EPS W g x y w) : Ext W w := h.2.2.out
theorem two_cellsE {w : World} {g : Nat} {x0 x1 : Value} {t : TypeId} (h : w.heap[g]? = some (.cells #[x0, x1] t (0, 0))) :
    w.cell? ⟨g, 0, none⟩ = some x0 ∧ w.cell? ⟨g, 1, none⟩ = some x1 := ⟨cell_of_row w g 0 _ _ _ h, cell_of_row w g 1 _ _ _ h⟩
set_option maxHeartbeats 1000000 in
theorem printE_any (x y : Int) (k : Nat) (cl sq : Int) (ok : Nat) (key old val : ByteArray) (w : World) (hL : Laid w) (hok : ok < 256) :
    Calls Tryz.prog 65 #[.agg #[.int .i64 x, .int .i64 y], .agg #[.int .u8 (k : Int), .int .i64 cl, .int .i64 sq, .int .u8 (ok : Int), .string key, .string old, .string val]] w fun e w' => ∃ A' c', e = .returned (.tuple #[.slice A' (pL x y ⟨k, cl, sq, ok, key, old, val⟩).length c', .int .i64 (pR x y ⟨k, cl, sq, ok, key, old, val⟩)]) ∧ By w' A' (pL x y ⟨k, cl, sq, ok, key, old, val⟩).length c' (pL x y ⟨k, cl, sq, ok, key, old, val⟩) ∧ Ext w w' := by
  have hx1 := (Ext.refl w).alloc (.cells #[.int .i64 x, .int .i64 y] 38)
  have hx2 := (Ext.refl (w.alloc (.cells #[.int .i64 x, .int .i64 y] 38))).alloc (.cells #[.int .u8 (k : Int), .int .i64 cl, .int .i64 sq, .int .u8 (ok : Int), .string key, .string old, .string val] 42)
  have HTB := Lib.hid (heap_extE (heap_alloc_new w (.cells #[.int .i64 x, .int .i64 y] 38)) hx2)
  have HT := Lib.hid (heap_alloc2_new w (.cells #[.int .i64 x, .int .i64 y] 38) (.cells #[.int .u8 (k : Int), .int .i64 cl, .int .i64 sq, .int .u8 (ok : Int), .string key, .string old, .string val] 42))
  have HE := Lib.hid (hx1.trans hx2)
  have HL := Lib.hid (hL.ext (hx1.trans hx2))
  clear hx1 hx2 hL
  cases hb : balE x y with
  | false =>
    rw [pL_nob hb, pR_nob hb]
    have HB := Lib.hid hb
    clear hb
    go_enter Tryz.func65, Tryz.ntmps65
    go_wp2_with fail
    refine (mayBallot_any _ _ _).mono ?_
    rw [HB.out]
    rintro e w1 ⟨rfl, hx⟩
    have HE := Lib.hid (HE.out.trans hx)
    clear hx
    go_wp2_with fail
    go_ret2
    exact ⟨none, 0, rfl, By.nil_ _, HE.out⟩
  | true =>
    have HBB := Lib.hid hb
    have HC := Lib.hid (fun V hV => bytes_any k cl sq ok key old val V hV hok)
    cases hk : enOk ⟨k, cl, sq, ok, key, old, val⟩ with
    | false =>
      rw [pL_no hk, pR_no hk]
      rw [eL_no hk, eR_no hk] at HC
      clear hb hk
      go_enter Tryz.func65, Tryz.ntmps65
      go_wp2_with fail
      refine (mayBallot_any _ _ _).mono ?_
      rw [HBB.out]
      rintro e w1 ⟨rfl, hx⟩
      obtain ⟨i0, i1, i2, i3, i4, i5, i6⟩ := seven_cells (heap_extE HT.out hx)
      have HE := Lib.hid (HE.out.trans hx)
      have HL := Lib.hid (HL.out.ext hx)
      clear hx
      go_wp2_with fail
      refine (HC.out _ HL.out).mono ?_
      rintro e w2 ⟨A2, c2, rfl, _, hx⟩
      have HE := Lib.hid (HE.out.trans hx)
      clear hx i0 i1 i2 i3 i4 i5 i6
      go_wp2_with fail
      go_ret2
      exact ⟨none, 0, rfl, By.nil_ _, HE.out⟩
    | true =>
      rw [pL_yes hb hk, pR_yes hb hk]
      rw [eL_yes hk, eR_yes hk] at HC
      obtain ⟨p1, p2, p3, p4⟩ := balE_iff.1 hb
      obtain ⟨xn, rfl⟩ := Int.eq_ofNat_of_zero_le (show 0 ≤ x by omega)
      obtain ⟨yn, rfl⟩ := Int.eq_ofNat_of_zero_le p3
      have hlen := enL_len hk
      have HLN : Hid (bodyL (xn : Int) (yn : Int) ⟨k, cl, sq, ok, key, old, val⟩ = digs 6 xn ++ [yn] ++ enL ⟨k, cl, sq, ok, key, old, val⟩) := Lib.hid rfl
      generalize hE : enL ⟨k, cl, sq, ok, key, old, val⟩ = E at *
      have HN : Hid ((bodyL (xn : Int) (yn : Int) ⟨k, cl, sq, ok, key, old, val⟩).length = 6 + 1 + E.length) := Lib.hid (by
        rw [HLN.out]
        simp only [List.length_append, List.length_cons, List.length_nil, digs_length])
      have HF1 : Hid (yn < 256) := Lib.hid (by omega)
      have HF6 : Hid (xn ≤ 1099511627776) := Lib.hid (by omega)
      have HEL := Lib.hid hlen
      clear hb hk p1 p2 p3 p4 hlen hE
      go_enter Tryz.func65, Tryz.ntmps65
      go_wp2_with fail
      refine (mayBallot_any _ _ _).mono ?_
      rw [HBB.out]
      rintro e w1 ⟨rfl, hx⟩
      obtain ⟨i0, i1, i2, i3, i4, i5, i6⟩ := seven_cells (heap_extE HT.out hx)
      have HTB := Lib.hid (heap_extE HTB.out hx)
      have HE := Lib.hid (HE.out.trans hx)
      have HL := Lib.hid (HL.out.ext hx)
      clear hx
      go_wp2_with fail
      refine (HC.out _ HL.out).mono ?_
      rintro e w2 ⟨A2, c2, rfl, hb, hx⟩
      have HB := Lib.hid hb
      have HE := Lib.hid (HE.out.trans hx)
      have HL := Lib.hid (HL.out.ext hx)
      clear i0 i1 i2 i3 i4 i5 i6
      obtain ⟨i0, i1⟩ := two_cellsE (heap_extE HTB.out hx)
      clear hx hb
      go_wp2_with fail
      generalize w.heap.size = g at *
      have hS : EPS w2 g xn yn w2 := ⟨i0, i1, Lib.hid (Ext.refl _)⟩
      have hS := hS.mono ((Ext.refl w2).drew)
      clear i0 i1
      go_region_held3 (fun w' => w'.cell? ⟨g, 0, none⟩ = some (.int .i64 (xn : Int)) ∧ w'.cell? ⟨g, 1, none⟩ = some (.int .i64 (yn : Int)) ∧ Hid (Ext w2 w'))
        (first | assumption | exact hS | exact EPS.mono (by assumption) hx | exact EPS.mono (by assumption) ((Ext.refl _).alloc _))
        (first
          | (go_at_call 140; ((with_reducible refine (eput6 xn _ ?_ HF6.out).mono ?_); (exact HL.out.ext (EPS.ext (g := g) (x := xn) (y := yn) (by assumption))); rintro r w3 ⟨A3, c3, rfl, hb, hx⟩; have HB3 := Lib.hid hb; have HX3 := Lib.hid hx; clear hb))
          | (go_at_call 140; ((with_reducible refine (eput1 yn _ ?_ HF1.out).mono ?_); (exact HL.out.ext (EPS.ext (g := g) (x := xn) (y := yn) (by assumption))); rintro r w4 ⟨A4, c4, rfl, hb, hx⟩; have HB4 := Lib.hid hb; have HX4 := Lib.hid hx; have hS4 := EPS.mono (W := w2) (g := g) (x := xn) (y := yn) (by assumption) hx; clear hb))
          | (go_at_call 139; (refine (join3_by w4 (HB3.out.ext HX4.out) HB4.out (HB.out.ext (((Ext.refl w2).drew.trans HX3.out).trans HX4.out)) (by have := HEL.out; omega)).mono ?_); rintro r w6 ⟨A6, c6, rfl, hb, hx⟩; have HB6 := Lib.hid hb; have HX6 := Lib.hid hx; have hS6 := hS4.mono hx; clear hb hx))
      have HF := Lib.hid (HE.out.trans hS6.ext)
      clear hS4 hS6 hS
      go_wp2_with fail
      go_ret2
      refine ⟨A6, c6, ?_, ?_, HF.out⟩
      · exact ret_slice _ _ (by rw [HN.out])
      · rw [HN.out, HLN.out]
        exact HB6.out
end
section
open Go Go.RowKit
def LaidT3 (w : World) : Prop := w.cell? ⟨0, 0, none⟩ = some (.int .i64 6) ∧ w.cell? ⟨0, 1, none⟩ = some (.int .i64 1) ∧ w.cell? ⟨0, 2, none⟩ = some (.int .i64 1)
structure LaidS (w : World) : Prop where
  o : Laid w
  t : LaidT3 w
theorem LaidT3.ext {a b : World} (h : LaidT3 a) (k : Ext a b) : LaidT3 b := by
  have hlt : 0 < a.heap.size := World.block_lt_of_cell? a _ h.1
  obtain ⟨h0, h1, h2⟩ := h
  exact ⟨(Below.cell k (p := ⟨0, 0, none⟩) hlt).trans h0, (Below.cell k (p := ⟨0, 1, none⟩) hlt).trans h1, (Below.cell k (p := ⟨0, 2, none⟩) hlt).trans h2⟩
theorem LaidS.ext {a b : World} (h : LaidS a) (k : Ext a b) : LaidS b := ⟨h.o.ext k, h.t.ext k⟩
theorem isFrame_any (h : Int) (w : World) : Calls Tryz.prog 222 #[.int .i64 h] w fun e w' => e = .returned (.bool (h == 0 || h == 1)) ∧ w' = w := by
  obtain ⟨b, hb⟩ : ∃ b, (h == 0) = b := ⟨_, rfl⟩
  obtain ⟨c, hc⟩ : ∃ c, (h == 1) = c := ⟨_, rfl⟩
  rw [hb, hc]
  cases b <;>
  · go_enter Tryz.func222, Tryz.ntmps222
    go_wp2
    go_ret
    exact ⟨rfl, rfl⟩
theorem noop_print (x y : Int) (w : World) (hL : Laid w) :
    Calls Tryz.prog 65 #[.agg #[.int .i64 x, .int .i64 y], .agg #[.int .u8 1, .int .i64 0, .int .i64 0, .int .u8 0, .string ⟨#[]⟩, .string ⟨#[]⟩, .string ⟨#[]⟩]] w fun e w' => ∃ A' n c', e = .returned (.tuple #[.slice A' n c', .int .i64 (if balE x y = true then 0 else 2)]) ∧ Ext w w' := by
  have hn : enOk ⟨1, 0, 0, 0, ⟨#[]⟩, ⟨#[]⟩, ⟨#[]⟩⟩ = true := enOk_iff.2 (.inl ⟨rfl, rfl, rfl, rfl, rfl, rfl, rfl⟩)
  have hr : pR x y ⟨1, 0, 0, 0, ⟨#[]⟩, ⟨#[]⟩, ⟨#[]⟩⟩ = (if balE x y = true then 0 else 2) := by unfold pR; simp [hn]
  refine (printE_any x y 1 0 0 0 ⟨#[]⟩ ⟨#[]⟩ ⟨#[]⟩ w hL (by omega)).mono ?_
  rintro e w' ⟨A', c', he, _, hx⟩
  exact ⟨A', _, c', by rw [he, hr], hx⟩
theorem may_of (x y h : Int) (w : World) (hL : Laid w) : Calls Tryz.prog 146 #[.agg #[.int .i64 x, .int .i64 y], .int .i64 h] w fun e w' => e = .returned (.bool (recB x y h)) ∧ Ext w w' := by
  have hE := (Ext.refl w).alloc (.cells #[.int .i64 x, .int .i64 y] 38)
  have HP := Lib.hid (noop_print x y _ (hL.ext hE))
  have HE := Lib.hid hE
  have HF := Lib.hid (isFrame_any h)
  have hr : recB x y h = (balE x y && (h == 0 || h == 1)) := by
    unfold recB
    congr 1
    rw [Bool.eq_iff_iff, decide_eq_true_iff, Bool.or_eq_true, beq_iff_eq, beq_iff_eq]
  rw [hr]
  clear hE hL hr
  cases hb : balE x y with
  | true =>
    rw [hb] at HP
    simp only [if_true] at HP
    clear hb
    go_enter Tryz.func146, Tryz.ntmps146
    go_wp2_with fail
    refine HP.out.mono ?_
    rintro e w1 ⟨A', n, c', rfl, hx⟩
    have HX := Lib.hid (HE.out.trans hx)
    clear hx
    go_wp2_with fail
    refine (HF.out _).mono ?_
    rintro e w2 ⟨rfl, rfl⟩
    go_wp2_with fail
    go_ret
    exact ⟨rfl, HX.out⟩
  | false =>
    rw [hb] at HP
    simp only [if_false, Bool.false_eq_true] at HP
    clear hb
    go_enter Tryz.func146, Tryz.ntmps146
    go_wp2_with fail
    refine HP.out.mono ?_
    rintro e w1 ⟨A', n, c', rfl, hx⟩
    have HX := Lib.hid (HE.out.trans hx)
    clear hx
    go_wp2_with fail
    go_ret
    exact ⟨rfl, HX.out⟩
end
section
open Go Go.RowKit Go.ChangeShapes Go.WideShapes Go.Deep
structure Ls {α : Type} (cells : α → List Value) (N : Nat) (w : World) (B : Nat) (A : Option Addr) (n c : Nat) (l : List α) : Prop where
  len : l.length = n
  cap : n ≤ c
  most : c ≤ 9223372036854775807
  rd : 0 < n → ∃ g o, A = some ⟨g, o, none⟩ ∧ g < B ∧ ∀ j a, l[j]? = some a → ∀ k v, (cells a)[k]? = some v → w.cell? ⟨g, o + (j * N + k), none⟩ = some v
  nil_ : A = none → c = 0
theorem Ls.below {α : Type} {cells : α → List Value} {N : Nat} {w w' : World} {B : Nat} {A : Option Addr} {n c : Nat} {l : List α} (h : Ls cells N w B A n c l) (hb : Below B w w') : Ls cells N w' B A n c l :=
  ⟨h.len, h.cap, h.most, fun hn => by
    obtain ⟨g, o, e, hg, hc⟩ := h.rd hn
    exact ⟨g, o, e, hg, fun j a ha k v hv => (hb.cell (p := ⟨g, o + (j * N + k), none⟩) hg).trans (hc j a ha k v hv)⟩, h.nil_⟩
theorem Ls.at_ {α : Type} {cells : α → List Value} {N : Nat} {w : World} {B : Nat} {A : Option Addr} {n c : Nat} {l : List α} (h : Ls cells N w B A n c l) {j : Nat} (hj : j < n) :
    ∃ g o a, A = some ⟨g, o, none⟩ ∧ g < B ∧ l[j]? = some a ∧ ∀ k v, (cells a)[k]? = some v → w.cell? ⟨g, o + (j * N + k), none⟩ = some v := by
  obtain ⟨g, o, e, hg, hc⟩ := h.rd (by omega)
  have hj' : j < l.length := by rw [h.len]; exact hj
  have ha : l[j]? = some l[j] := List.getElem?_eq_getElem hj'
  exact ⟨g, o, l[j], e, hg, ha, fun k v hv => hc j _ ha k v hv⟩
section
variable {H : Type} {enc : TypeId × Value → H} {P : Program} {w : World} {base : Nat} {spare : Nat → Bool} {held : Bool}
theorem trod_list {α : Type} [Inhabited α] {cells : α → List Value} {N : Nat} {Ok : α → Prop} (hN : ∀ a, (cells a).length = N) (h0 : 0 < N) {t e : TypeId} (ht : P.underlying t = some (.slice e)) (hce : P.cellsOf e = N)
    (one : ∀ {fuel : Nat} {cs : List Value} {x : DataW H × List MemPlace}, DataW.trod enc P w base spare held fuel e cs = some x → ∃ a, cs = cells a ∧ Ok a) {fuel : Nat} {cs : List Value} {x : DataW H × List MemPlace} (h : DataW.trod enc P w base spare held fuel t cs = some x) :
    ∃ (A : Option Addr) (n c : Nat) (l : List α), cs = [.slice A n c] ∧ Ls cells N w w.heap.size A n c l ∧ ∀ a ∈ l, Ok a := by
  rcases open_slice ht h with ⟨rfl, _⟩ | ⟨a, len, cap, m, n, D, Pl, rfl, _, hl, hm, hmm, _, hi⟩
  · exact ⟨none, 0, 0, [], rfl, ⟨rfl, Nat.le_refl _, by omega, fun h => absurd h (by omega), fun _ => rfl⟩, fun a ha => (by cases ha)⟩
  · have hle : len ≤ m := by rw [hmm]; split <;> omega
    have each : ∀ i, i < len → ∃ b : α, (∀ k v, (cells b)[k]? = some v → w.cell? ((a.add (i * N)).add k) = some v) ∧ Ok b := fun i hil => by
      obtain ⟨cs', h1, h2⟩ := hi i (by omega)
      rw [hce] at h1
      obtain ⟨_, _, hcell⟩ := World.cells?_some h1
      obtain ⟨b, rfl, hb⟩ := one h2
      refine ⟨b, fun k v hv => ?_, hb⟩
      have hk5 : k < N := by rw [← hN b]; exact (List.getElem?_eq_some_iff.1 hv).1
      rw [hcell k hk5, hv]
    obtain ⟨f, hf⟩ := choose_lt each
    refine ⟨some a, len, cap, (List.range len).map f, rfl, ⟨by simp, hl, by unfold maxLen at hm; exact hm, fun hn => ?_, fun h => by cases h⟩, fun b hb => ?_⟩
    · obtain ⟨g, o, spot⟩ := a
      have hc := (hf 0 hn).1 0 _ (List.getElem?_eq_getElem (by rw [hN]; exact h0))
      have hspot : spot = none := by simpa [Addr.add] using World.cell?_spot hc
      subst hspot
      refine ⟨g, o, rfl, ?_, fun j b hb k v hv => ?_⟩
      · have := World.block_lt_of_cell? w _ hc
        simpa [Addr.add] using this
      · rw [List.getElem?_map] at hb
        obtain ⟨i, hi2, rfl⟩ := Option.map_eq_some_iff.1 hb
        obtain ⟨hjl, hji⟩ := List.getElem?_eq_some_iff.1 hi2
        simp at hjl hji
        subst hji
        have := (hf j hjl).1 k v hv
        rw [Addr.add_lit, Addr.add_lit, Nat.add_assoc] at this
        exact this
    · obtain ⟨i, hil, rfl⟩ := List.mem_map.1 hb
      exact (hf i (List.mem_range.1 hil)).2
theorem open_list {α : Type} [Inhabited α] {cells : α → List Value} {N : Nat} {Ok : α → Prop} (hN : ∀ a, (cells a).length = N) (h0 : 0 < N) {t e : TypeId} (ht : P.underlying t = some (.slice e)) (hce : P.cellsOf e = N)
    (one : ∀ {fuel : Nat} {cs : List Value} {x : DataW H × List MemPlace}, DataW.trod enc P w base spare held fuel e cs = some x → ∃ a, cs = cells a ∧ Ok a) {r : Reach} {b0 : Nat} {v : Value} {d : DataW H} {p : List MemPlace}
    (hv : Value.okWide P w r b0 t v) (h : DataW.Trod enc P w base spare held t v d p) : ∃ (A : Option Addr) (n c : Nat) (l : List α), v = .slice A n c ∧ Ls cells N w w.heap.size A n c l ∧ ∀ a ∈ l, Ok a := by
  obtain ⟨A, n, c, rfl⟩ := okWide_slice ht hv
  obtain ⟨fuel, hf⟩ := h
  obtain ⟨A', n', c', l, hcs, hl⟩ := trod_list hN h0 ht hce one hf
  simp [Value.cells] at hcs
  obtain ⟨rfl, rfl, rfl⟩ := hcs
  exact ⟨_, _, _, l, rfl, hl⟩
structure BalTy (P : Program) (e ti : TypeId) : Prop where
  fs : ∃ f0 f1 : Field, P.underlying e = some (.struct #[f0, f1]) ∧ (f0.type = ti ∧ f0.offset = 0) ∧ (f1.type = ti ∧ f1.offset = 1)
  cells : P.cellsOf e = 2
  one : P.cellsOf ti = 1
  i64 : P.underlying ti = some (.int .i64)
theorem trod_bal {e ti : TypeId} (T : BalTy P e ti) {fuel : Nat} {cs : List Value} {x : DataW H × List MemPlace} (h : DataW.trod enc P w base spare held fuel e cs = some x) : ∃ a b : Int, cs = [.int .i64 a, .int .i64 b] ∧ (Lit.int .i64 a).wf = true ∧ (Lit.int .i64 b).wf = true := by
  obtain ⟨f0, f1, hs, ⟨y0, o0⟩, y1, o1⟩ := T.fs
  obtain ⟨xs, n, _, _, hcl, hxl, hg⟩ := DataW.trod_struct hs h
  rw [T.cells] at hcl
  match cs, hcl, xs, hxl with
  | [c0, c1], _, [x0, x1], _ =>
    have g0 := hg 0 f0 rfl
    have g1 := hg 1 f1 rfl
    rw [y0, o0, T.one] at g0
    rw [y1, o1, T.one] at g1
    obtain ⟨a, e0, _, w0⟩ := DataW.trod_int T.i64 (show DataW.trod enc P w base spare held n ti [c0] = some x0 from g0)
    obtain ⟨b, e1, _, w1⟩ := DataW.trod_int T.i64 (show DataW.trod enc P w base spare held n ti [c1] = some x1 from g1)
    injection e0 with e0 _
    injection e1 with e1 _
    exact ⟨a, b, by rw [e0, e1], w0, w1⟩
structure Bal where
  x : Int := 0
  y : Int := 0
instance : Inhabited Bal := ⟨{}⟩
def Bal.cells (b : Bal) : List Value := [.int .i64 b.x, .int .i64 b.y]
structure StepU where
  p : Bool := false
  x : Int := 0
  y : Int := 0
  w : Int := 0
  kA : Option Addr := none
  kn : Nat := 0
  kc : Nat := 0
  kl : List Bool := []
instance : Inhabited StepU := ⟨{}⟩
def StepU.cells (s : StepU) : List Value := [.bool s.p, .int .i64 s.x, .int .i64 s.y, .int .i8 s.w, .slice s.kA s.kn s.kc]
structure StepU.Ok (s : StepU) (w : World) (B : Nat) : Prop where
  power : (Lit.int .i8 s.w).wf = true
  keep : Vs w B s.kA s.kn s.kc (s.kl.map .bool)
end
end
section
open Go Go.RowKit Go.ChangeShapes Go.WideShapes Go.Deep
def Ent.cells (e : Ent) : List Value := [.int .u8 (e.k : Nat), .int .i64 e.cl, .int .i64 e.sq, .int .u8 (e.ok : Nat), .string e.key, .string e.old, .string e.val]
structure Ent.Wf (e : Ent) : Prop where
  k : e.k < 256
  ok : e.ok < 256
  cl : (Lit.int .i64 e.cl).wf = true
  sq : (Lit.int .i64 e.sq).wf = true
  key : e.key.size ≤ maxLen
  old : e.old.size ≤ maxLen
  val : e.val.size ≤ maxLen
section
variable {H : Type} {enc : TypeId × Value → H} {P : Program} {w : World} {base : Nat} {spare : Nat → Bool} {held : Bool}
structure OpTy (P : Program) (e t8 ts : TypeId) : Prop where
  fs : ∃ f0 f1 f2 f3 : Field, P.underlying e = some (.struct #[f0, f1, f2, f3]) ∧ (f0.type = t8 ∧ f0.offset = 0) ∧ (f1.type = ts ∧ f1.offset = 1) ∧ (f2.type = ts ∧ f2.offset = 2) ∧ (f3.type = ts ∧ f3.offset = 3)
  cells : P.cellsOf e = 4
  u8 : P.underlying t8 = some (.int .u8)
  str : P.underlying ts = some .string
  one : P.cellsOf t8 = 1 ∧ P.cellsOf ts = 1
theorem trod_opE {e t8 ts : TypeId} (T : OpTy P e t8 ts) {fuel : Nat} {cs : List Value} {x : DataW H × List MemPlace} (h : DataW.trod enc P w base spare held fuel e cs = some x) :
    ∃ (k : Nat) (a b c : ByteArray), cs = [.int .u8 (k : Nat), .string a, .string b, .string c] ∧ k < 256 ∧ a.size ≤ maxLen ∧ b.size ≤ maxLen ∧ c.size ≤ maxLen := by
  obtain ⟨f0, f1, f2, f3, hs, ⟨y0, o0⟩, ⟨y1, o1⟩, ⟨y2, o2⟩, y3, o3⟩ := T.fs
  obtain ⟨xs, n, _, _, hcl, hxl, hg⟩ := DataW.trod_struct hs h
  rw [T.cells] at hcl
  match cs, hcl, xs, hxl with
  | [c0, c1, c2, c3], _, [x0, x1, x2, x3], _ =>
    have g0 := hg 0 f0 rfl
    have g1 := hg 1 f1 rfl
    have g2 := hg 2 f2 rfl
    have g3 := hg 3 f3 rfl
    rw [y0, o0, T.one.1] at g0
    rw [y1, o1, T.one.2] at g1
    rw [y2, o2, T.one.2] at g2
    rw [y3, o3, T.one.2] at g3
    obtain ⟨z, e0, _, w0⟩ := DataW.trod_int T.u8 (show DataW.trod enc P w base spare held n t8 [c0] = some x0 from g0)
    obtain ⟨a, e1, _, w1⟩ := DataW.trod_string T.str (show DataW.trod enc P w base spare held n ts [c1] = some x1 from g1)
    obtain ⟨b, e2, _, w2⟩ := DataW.trod_string T.str (show DataW.trod enc P w base spare held n ts [c2] = some x2 from g2)
    obtain ⟨c, e3, _, w3⟩ := DataW.trod_string T.str (show DataW.trod enc P w base spare held n ts [c3] = some x3 from g3)
    have hz := bounds_u8 w0
    obtain ⟨k, rfl⟩ := Int.eq_ofNat_of_zero_le (show 0 ≤ z by omega)
    injection e0 with e0 _
    injection e1 with e1 _
    injection e2 with e2 _
    injection e3 with e3 _
    exact ⟨k, a, b, c, by rw [e0, e1, e2, e3], by omega, w1, w2, w3⟩
structure EntTy (P : Program) (e t8 ti tO ts : TypeId) : Prop where
  fs : ∃ f0 f1 f2 f3 : Field, P.underlying e = some (.struct #[f0, f1, f2, f3]) ∧ (f0.type = t8 ∧ f0.offset = 0) ∧ (f1.type = ti ∧ f1.offset = 1) ∧ (f2.type = ti ∧ f2.offset = 2) ∧ (f3.type = tO ∧ f3.offset = 3)
  cells : P.cellsOf e = 7
  op : OpTy P tO t8 ts
  i64 : P.underlying ti = some (.int .i64)
  one : P.cellsOf ti = 1
theorem trod_ent {e t8 ti tO ts : TypeId} (T : EntTy P e t8 ti tO ts) {fuel : Nat} {cs : List Value} {x : DataW H × List MemPlace} (h : DataW.trod enc P w base spare held fuel e cs = some x) :
    ∃ e : Ent, cs = e.cells ∧ e.Wf := by
  obtain ⟨f0, f1, f2, f3, hs, ⟨y0, o0⟩, ⟨y1, o1⟩, ⟨y2, o2⟩, y3, o3⟩ := T.fs
  obtain ⟨xs, n, _, _, hcl, hxl, hg⟩ := DataW.trod_struct hs h
  rw [T.cells] at hcl
  match cs, hcl, xs, hxl with
  | [c0, c1, c2, c3, c4, c5, c6], _, [x0, x1, x2, x3], _ =>
    have g0 := hg 0 f0 rfl
    have g1 := hg 1 f1 rfl
    have g2 := hg 2 f2 rfl
    have g3 := hg 3 f3 rfl
    rw [y0, o0, T.op.one.1] at g0
    rw [y1, o1, T.one] at g1
    rw [y2, o2, T.one] at g2
    rw [y3, o3, T.op.cells] at g3
    obtain ⟨z, e0, _, w0⟩ := DataW.trod_int T.op.u8 (show DataW.trod enc P w base spare held n t8 [c0] = some x0 from g0)
    obtain ⟨cl, e1, _, w1⟩ := DataW.trod_int T.i64 (show DataW.trod enc P w base spare held n ti [c1] = some x1 from g1)
    obtain ⟨sq, e2, _, w2⟩ := DataW.trod_int T.i64 (show DataW.trod enc P w base spare held n ti [c2] = some x2 from g2)
    obtain ⟨ok, a, b, c, e3, k3, ka, kb, kc⟩ := trod_opE T.op (show DataW.trod enc P w base spare held n tO [c3, c4, c5, c6] = some x3 from g3)
    have hz := bounds_u8 w0
    obtain ⟨k, rfl⟩ := Int.eq_ofNat_of_zero_le (show 0 ≤ z by omega)
    injection e0 with e0 _
    injection e1 with e1 _
    injection e2 with e2 _
    refine ⟨⟨k, cl, sq, ok, a, b, c⟩, ?_, ⟨by dsimp only; omega, k3, w1, w2, ka, kb, kc⟩⟩
    rw [e0, e1, e2, e3]
    rfl
end
end
section
open Go Go.RowKit Go.ChangeShapes Go.WideShapes Go.Deep
theorem balE_ty : BalTy Tryz.prog 38 3 := ⟨⟨_, _, Tryz.underlying38, ⟨rfl, rfl⟩, rfl, rfl⟩, by kernel_rfl, by kernel_rfl, Tryz.underlying3⟩
theorem op_ty : OpTy Tryz.prog 40 5 9 := ⟨⟨_, _, _, _, Tryz.underlying40, ⟨rfl, rfl⟩, ⟨rfl, rfl⟩, ⟨rfl, rfl⟩, rfl, rfl⟩, by kernel_rfl, Tryz.underlying5, Tryz.underlying9, by kernel_rfl, by kernel_rfl⟩
theorem ent_ty : EntTy Tryz.prog 42 5 3 40 9 := ⟨⟨_, _, _, _, Tryz.underlying42, ⟨rfl, rfl⟩, ⟨rfl, rfl⟩, ⟨rfl, rfl⟩, rfl, rfl⟩, by kernel_rfl, op_ty, Tryz.underlying3, by kernel_rfl⟩
end
section
open Go Go.ChangeShapes Go.WideShapes Go.ChangeAt Go.WideMaps Go.WideElems Go.RowKit Go.Deep
def laidList : List (String × DataW Unit) := [("sexton/crc.halves", Rows.laid_sexton_crc_halves), ("sexton/octet.bounds", Rows.laid_sexton_octet_bounds), ("sexton/tag.regions", Rows.laid_sexton_tag_regions), ("sexton/tag.widths", Rows.laid_sexton_tag_widths), ("sexton/slot.widths", Rows.laid_sexton_slot_widths)]
theorem door_met (os : Os) (args : Array Value) : laidMetH Tryz.prog laidList ((World.doorLaid Tryz.prog 400 os).forCall (fun _ _ => 0) ⟨#[], args, []⟩).memory :=
  laidMetH_of_parts3 (fuel := 8) (laidMet_of_run' 8 (by kernel_rfl) (by kernel_rfl)) (by kernel_rfl) (by kernel_rfl)
theorem laid_of {W : World} (h : laidMetH Tryz.prog laidList W) : LaidF W ∧ LaidS W := by
  rw [MakeChecks.laidMetH_plain _ _ _ (by kernel_rfl)] at h
  have hF : LaidF W := ⟨⟨laid_o h.tail, laid_t h.tail.tail, laid_w h.tail.tail.tail⟩, laid_h h⟩
  have hg : Tryz.prog.globalNamed "sexton/slot.widths" = some 0 := by kernel_rfl
  have ht : (Tryz.prog.globals[0]?).map (·.type) = some 233 := by kernel_rfl
  have hv : W.var? Tryz.prog "sexton/slot.widths" = some (([6, 1, 1] : List Int).map fun z => Value.int .i64 z).toArray :=
    Lib.tabIs_of_head hg ht Tryz.underlying233 Tryz.underlying3 (by kernel_rfl) (by kernel_rfl) h.tail.tail.tail.tail
  have hc := fun i => World.var?_cell hg hv i
  exact ⟨hF, ⟨hF.a.o, ⟨hc 0, hc 1, hc 2⟩⟩⟩
end
section
open Go
theorem room_le_of {l : List Nat} (hs : l.length = 64 ∨ l.length = 128) (h : bodyN l ≤ roomN ((l.length / 64 : Nat) : Int)) : bodyN l + 21 ≤ l.length ∧ l.length / 64 * 64 = l.length := by
  rcases hs with h64 | h64
  · rw [h64] at h ⊢
    rw [show roomN ((64 / 64 : Nat) : Int) = 43 from rfl] at h
    omega
  · rw [h64] at h ⊢
    rw [show roomN ((128 / 64 : Nat) : Int) = 88 from rfl] at h
    omega
end
section
open Go Go.RowKit
theorem By.sub {w : World} {g o n c : Nat} {l : List Nat} (h : By w (some ⟨g, o, none⟩) n c l) (i k c' : Nat) (hk : i + k ≤ n) (hc : k ≤ c') (hm : c' ≤ 9223372036854775807) : By w (some ⟨g, o + i, none⟩) k c' ((l.drop i).take k) :=
  ⟨by rw [List.length_take, List.length_drop, h.len]; omega, hc, hm, (h.rd.drop rfl i).take k, fun hh => by cases hh⟩
def okB (l : List Nat) : Bool := PV (tagOf l) && decide (17 + bodyN l ≤ l.length)
def qf (l : List Nat) (k : Nat) : Nat := if okB l = true then pf (tagOf l) k else 0
def ql (l : List Nat) : List Nat := if okB l = true then bodyOf l else []
theorem qf_yes {l : List Nat} (h : okB l = true) (k : Nat) : qf l k = pf (tagOf l) k := by unfold qf; rw [if_pos h]
theorem qf_no {l : List Nat} (h : okB l = false) (k : Nat) : qf l k = 0 := by unfold qf; rw [if_neg (by rw [h]; simp)]
theorem ql_yes {l : List Nat} (h : okB l = true) : ql l = bodyOf l := by unfold ql; rw [if_pos h]
theorem ql_no {l : List Nat} (h : okB l = false) : ql l = [] := by unfold ql; rw [if_neg (by rw [h]; simp)]
theorem okB_PV {l : List Nat} (h : PV (tagOf l) = false) : okB l = false := by unfold okB; rw [h]; rfl
theorem okB_long {l : List Nat} (h : l.length < 17 + bodyN l) : okB l = false := by
  unfold okB
  rw [decide_eq_false (by omega), Bool.and_false]
theorem okB_yes {l : List Nat} (hp : PV (tagOf l) = true) (h : 17 + bodyN l ≤ l.length) : okB l = true := by
  unfold okB
  rw [hp, decide_eq_true h]
  rfl
def stN (l : List Nat) : Nat := if szB l = true then (if zeroB l = true then 0 else if goodB l = true then 1 else 2) else 2
def ofl (l : List Nat) (k : Nat) : Nat := if goodB l = true then pf (tagOf l) k else 0
def obl (l : List Nat) : List Nat := if goodB l = true then bodyOf l else []
theorem ofl_yes {l : List Nat} (h : goodB l = true) (k : Nat) : ofl l k = pf (tagOf l) k := by unfold ofl; rw [if_pos h]
theorem ofl_no {l : List Nat} (h : goodB l = false) (k : Nat) : ofl l k = 0 := by unfold ofl; rw [if_neg (by rw [h]; simp)]
theorem obl_yes {l : List Nat} (h : goodB l = true) : obl l = bodyOf l := by unfold obl; rw [if_pos h]
theorem obl_no {l : List Nat} (h : goodB l = false) : obl l = [] := by unfold obl; rw [if_neg (by rw [h]; simp)]
theorem good_sz {l : List Nat} (h : goodB l = true) : szB l = true := by
  unfold goodB at h
  simp only [Bool.and_eq_true] at h
  exact h.1.1.1
theorem szB_iff {l : List Nat} : szB l = true ↔ l.length = 64 ∨ l.length = 128 := by
  unfold szB
  simp
theorem stN_good {l : List Nat} (h : goodB l = true) : stN l = 1 := by
  unfold stN
  rw [if_pos (good_sz h), if_neg (by rw [good_not_zero h]; simp), if_pos h]
theorem stN_blank {l : List Nat} (hs : szB l = true) (h : zeroB l = true) : stN l = 0 := by unfold stN; rw [if_pos hs, if_pos h]
theorem stN_size {l : List Nat} (h : szB l = false) : stN l = 2 := by unfold stN; rw [if_neg (by rw [h]; simp)]
theorem stN_bad {l : List Nat} (hz : zeroB l = false) (h : goodB l = false) : stN l = 2 := by
  unfold stN
  rw [if_neg (show ¬ zeroB l = true by rw [hz]; simp), if_neg (show ¬ goodB l = true by rw [h]; simp)]
  split <;> rfl
theorem size_bad {l : List Nat} (h : szB l = false) : goodB l = false := by
  unfold goodB
  rw [h]
  rfl
theorem zero_bad {l : List Nat} (h : zeroB l = true) : goodB l = false := by
  by_cases hg : goodB l = true
  · rw [good_not_zero hg] at h; cases h
  · simpa using hg
theorem stN_one {l : List Nat} : stN l = 1 ↔ goodB l = true := by
  constructor
  · intro h
    by_cases hg : goodB l = true
    · exact hg
    · have hg' : goodB l = false := by simpa using hg
      unfold stN at h
      rw [if_neg hg] at h
      split at h
      · split at h <;> cases h
      · cases h
  · exact stN_good
theorem room_ws {l : List Nat} (h : szB l = false) : roomN ((wsN l.length : Nat) : Int) = 0 := by
  have hs : ¬ (l.length = 64 ∨ l.length = 128) := fun hh => by rw [szB_iff.2 hh] at h; cases h
  unfold wsN
  by_cases hm : l.length % 64 = 0
  · rw [if_pos hm]
    exact roomN_no (by omega) (by omega)
  · rw [if_neg hm]
    exact roomN_no (by omega) (by omega)
theorem ws_div {l : List Nat} (h : szB l = true) : wsN l.length = l.length / 64 := by
  unfold wsN
  rw [szB_iff] at h
  rw [if_pos (by omega)]
theorem room_pos {l : List Nat} (h : szB l = true) : roomN ((l.length / 64 : Nat) : Int) ≠ 0 := by
  rw [szB_iff] at h
  rcases h with h | h
  · rw [h]; decide
  · rw [h]; decide
theorem good_okB {l : List Nat} (h : goodB l = true) : okB l = true := by
  obtain ⟨hs, hp, hn, _⟩ := good_parts h
  have := room_le_of hs hn
  exact okB_yes hp (by omega)
theorem may_pf {l : List Nat} (h : PV l = true) : mayB (pf l 0) (pf l 1) (pf l 2) (pf l 3) (pf l 4) = true := by
  rw [pf_yes h, pf_yes h, pf_yes h, pf_yes h, pf_yes h]
  unfold PV at h
  simp only [Bool.and_eq_true] at h
  exact h.2
theorem tagOf_lt {l : List Nat} (hl : ∀ b ∈ l, b < 256) : ∀ b ∈ tagOf l, b < 256 := fun x hx => hl x (List.mem_of_mem_drop (List.mem_of_mem_take hx))
theorem bodyOf_len {l : List Nat} (h : 17 + bodyN l ≤ l.length) : (bodyOf l).length = bodyN l := by unfold bodyOf; rw [List.length_take, List.length_drop]; omega
theorem okB_parts {l : List Nat} (h : okB l = true) : PV (tagOf l) = true ∧ 17 + bodyN l ≤ l.length := by
  unfold okB at h
  simpa using h
def reE (l : List Nat) : Int := sealE (qf l 0) (qf l 1) (qf l 2) (qf l 3) (qf l 4) (ql l).length ((l.length / 64 : Nat) : Int)
def reL (l : List Nat) : List Nat := sealL (qf l 0) (qf l 1) (qf l 2) (qf l 3) (qf l 4) (ql l) ((l.length / 64 : Nat) : Int)
theorem re_no {l : List Nat} (hs : szB l = true) (h : reE l ≠ 0) : goodB l = false := by
  by_cases hg : goodB l = true
  · refine absurd ?_ h
    have ho := good_okB hg
    obtain ⟨hp, hn⟩ := okB_parts ho
    unfold reE
    rw [qf_yes ho, qf_yes ho, qf_yes ho, qf_yes ho, qf_yes ho, ql_yes ho]
    exact sealE_yes (room_pos hs) (may_pf hp) (by rw [bodyOf_len hn]; exact (good_parts hg).2.2.1)
  · simpa using hg
theorem re_yes {l : List Nat} (hs : szB l = true) (hl : ∀ b ∈ l, b < 256) (h : reE l = 0) : goodB l = decide (reL l = l) := by
  have hr := room_pos hs
  by_cases ho : okB l = true
  · obtain ⟨hp, hn⟩ := okB_parts ho
    unfold reE at h
    rw [qf_yes ho, qf_yes ho, qf_yes ho, qf_yes ho, qf_yes ho, ql_yes ho, bodyOf_len hn] at h
    have hroom : bodyN l ≤ roomN ((l.length / 64 : Nat) : Int) := by
      rcases Nat.lt_or_ge (roomN ((l.length / 64 : Nat) : Int)) (bodyN l) with h1 | h1
      · rw [sealE_long hr (may_pf hp) h1] at h; cases h
      · exact h1
    have hL : reL l = frameL (bodyOf l) (tagOf l) (l.length / 64) := by
      unfold reL
      rw [qf_yes ho, qf_yes ho, qf_yes ho, qf_yes ho, qf_yes ho, ql_yes ho, sealL_yes (by rw [bodyOf_len hn]; exact h), (pl_of hp (tagOf_lt hl)).1, Int.toNat_natCast]
    rw [hL]
    unfold goodB
    rw [hs, hp, decide_eq_true hroom, Bool.true_and, Bool.true_and, Bool.true_and]
    by_cases he : l = frameL (bodyOf l) (tagOf l) (l.length / 64)
    · rw [decide_eq_true he, decide_eq_true he.symm]
    · rw [decide_eq_false he, decide_eq_false fun hh => he hh.symm]
  · have ho' : okB l = false := by simpa using ho
    unfold reE at h
    rw [qf_no ho', qf_no ho', qf_no ho', qf_no ho', qf_no ho', sealE_arg (.inr (by decide))] at h
    cases h
end
end Go.Proofs.YtmbmpabjclkhlaaGreatDoor
