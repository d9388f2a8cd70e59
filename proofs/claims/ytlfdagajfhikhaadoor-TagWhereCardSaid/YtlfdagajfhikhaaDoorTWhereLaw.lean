/-
  The walk of TagWhere: each sector from 0 to 155 is of just one place; each place lies behind the one ahead of it.
-/
import Derived.Test.YtlfdagajfhikhaaDoorTAwake
import Derived.Test.YtlfdagajfhikhaaDoorTRef
import Derived.OpenShut
namespace Go.Proofs.YtlfdagajfhikhaaDoor
open Go Go.RowKit Go.ChangeShapes Go.WideShapes

theorem where_in {s : Int} (h0 : 0 ≤ s) (h1 : s < 156) : ∃ a q k : Nat, wReg s = a ∧ wPlc s = q ∧ wBeh s = k ∧ wIs s = true ∧ q < plc a ∧ k < wid a ∧ firstS a q = s - k ∧ (k : Int) ≤ s := by
  have key : ∀ a : Nat, 1 ≤ a → a ≤ 5 → (beg a : Int) ≤ s → s - beg a < ((plc a * wid a : Nat) : Int) → ∃ a q k : Nat, wReg s = a ∧ wPlc s = q ∧ wBeh s = k ∧ wIs s = true ∧ q < plc a ∧ k < wid a ∧ firstS a q = s - k ∧ (k : Int) ≤ s := by
    intro a ha1 ha5 hb hs
    obtain ⟨m, hm⟩ := Int.eq_ofNat_of_zero_le (show 0 ≤ s - beg a by omega)
    have hw := wid_pos (r := a) (by omega)
    obtain ⟨e1, e2, e3, e4⟩ := where_at ha1 ha5 hb hs
    rw [hm, ← Int.natCast_ediv] at e2
    rw [hm, ← Int.natCast_emod] at e3
    have hq : m / wid a < plc a := (Nat.div_lt_iff_lt_mul (by omega)).2 (by omega)
    have hk := Nat.mod_lt m (show 0 < wid a by omega)
    have hd := Nat.div_add_mod m (wid a)
    rw [Nat.mul_comm] at hd
    have hle := Nat.mod_le m (wid a)
    refine ⟨a, m / wid a, m % wid a, e1, e2, e3, e4, hq, hk, ?_, by omega⟩
    rw [firstS_yes ⟨Int.natCast_nonneg _, Int.ofNat_lt.2 hq⟩, ← Int.natCast_mul]
    generalize m / wid a * wid a = z at *
    generalize m % wid a = y at *
    clear e1 e2 e3 e4 hq hk hle
    omega
  by_cases g1 : s < 2
  · exact key 1 (by omega) (by omega) (by rw [show beg ((1 : Nat) : Int) = 0 from rfl]; omega) (by rw [show beg ((1 : Nat) : Int) = 0 from rfl, show plc ((1 : Nat) : Int) * wid ((1 : Nat) : Int) = 2 from rfl]; omega)
  by_cases g2 : s < 4
  · exact key 2 (by omega) (by omega) (by rw [show beg ((2 : Nat) : Int) = 2 from rfl]; omega) (by rw [show beg ((2 : Nat) : Int) = 2 from rfl, show plc ((2 : Nat) : Int) * wid ((2 : Nat) : Int) = 2 from rfl]; omega)
  by_cases g3 : s < 28
  · exact key 3 (by omega) (by omega) (by rw [show beg ((3 : Nat) : Int) = 4 from rfl]; omega) (by rw [show beg ((3 : Nat) : Int) = 4 from rfl, show plc ((3 : Nat) : Int) * wid ((3 : Nat) : Int) = 24 from rfl]; omega)
  by_cases g4 : s < 124
  · exact key 4 (by omega) (by omega) (by rw [show beg ((4 : Nat) : Int) = 28 from rfl]; omega) (by rw [show beg ((4 : Nat) : Int) = 28 from rfl, show plc ((4 : Nat) : Int) * wid ((4 : Nat) : Int) = 96 from rfl]; omega)
  · exact key 5 (by omega) (by omega) (by rw [show beg ((5 : Nat) : Int) = 124 from rfl]; omega) (by rw [show beg ((5 : Nat) : Int) = 124 from rfl, show plc ((5 : Nat) : Int) * wid ((5 : Nat) : Int) = 32 from rfl]; omega)

/-- What is asked of a place that there is: its first sector M, its sectors. -/
structure Spot (r p M : Nat) : Prop where
  first : firstS (r : Int) (p : Int) = (M : Int)
  most : M + wid (r : Int) ≤ 156
  each : ∀ k : Nat, k < wid (r : Int) → wReg ((M : Int) + (k : Int)) = (r : Int) ∧ wPlc ((M : Int) + (k : Int)) = (p : Int) ∧ wBeh ((M : Int) + (k : Int)) = (k : Int) ∧ wIs ((M : Int) + (k : Int)) = true
theorem spot {r p : Nat} (h1 : 1 ≤ r) (h5 : r ≤ 5) (hp : p < plc (r : Int)) : Spot r p (beg (r : Int) + p * wid (r : Int)) := by
  refine ⟨by rw [firstS_yes ⟨by omega, by omega⟩]; simp, ?_, fun k hk => ?_⟩
  · have h := at_le (a := r) (q := p + 1) h5 (by omega)
    have hb := beg_le ((r : Int) + 1)
    rw [at_step] at h
    omega
  · have h := where_mid h1 h5 hp hk
    rw [Int.natCast_add] at h
    exact h
/-- The same of a region's first place. -/
structure Spot0 (r M : Nat) : Prop where
  first : firstS (r : Int) 0 = (M : Int)
  most : M + wid (r : Int) ≤ 156
  each : ∀ k : Nat, k < wid (r : Int) → wReg ((M : Int) + (k : Int)) = (r : Int) ∧ wPlc ((M : Int) + (k : Int)) = 0 ∧ wBeh ((M : Int) + (k : Int)) = (k : Int) ∧ wIs ((M : Int) + (k : Int)) = true
theorem spot0 {r M : Nat} (h : Spot r 0 M) : Spot0 r M := ⟨h.first, h.most, h.each⟩
theorem first_pred {r p : Nat} (hp0 : 0 < p) (hp : p < plc (r : Int)) : firstS (r : Int) ((p : Int) - 1) = ((beg (r : Int) + p * wid (r : Int) : Nat) : Int) - wid (r : Int) := by
  obtain ⟨q, rfl⟩ : ∃ q, p = q + 1 := ⟨p - 1, by omega⟩
  rw [firstS_yes ⟨by omega, by omega⟩, at_step]
  rw [show (((q + 1 : Nat) : Int) - 1) = (q : Int) by omega, ← Int.natCast_mul]
  omega
theorem first_last {r : Nat} (h1 : 2 ≤ r) (h5 : r ≤ 5) : firstS ((r : Int) - 1) ((plc ((r : Int) - 1) : Int) - 1) = (beg (r : Int) : Int) - wid ((r : Int) - 1) ∧ 1 ≤ plc ((r : Int) - 1) ∧ wid ((r : Int) - 1) ≤ beg (r : Int) := by
  have hj : r = 2 ∨ r = 3 ∨ r = 4 ∨ r = 5 := by omega
  rcases hj with rfl | rfl | rfl | rfl <;> decide

set_option maxRecDepth 100000 in
set_option maxHeartbeats 3200000 in
theorem tagWhere_N1 (s : Int) (r p : Int) (w : World) (hL : LaidA w) (hs : s < 0) (hp : p < 0) :
    Calls Tryd.prog 6 #[.int .i64 s, .int .i64 r, .int .i64 p] w fun e w' => e = .returned (.bool true) ∧ Ext w w' := by
  have HL := Lib.hid hL
  have HS := Lib.hid (where_no (s := s) (.inl hs))
  have hsm : s ≤ 9223372036854775807 := by omega
  have HF := Lib.hid (firstS_no (r := r) (p := p) (by omega))
  clear hL
  go_enter Tryd.func6, Tryd.ntmps6
  go_wp2_with fail
  refine (tawake_any _ HL.out).mono ?_
  rintro e w1 ⟨rfl, hx⟩
  have HE := Lib.hid hx
  clear hx
  go_wp2_with fail
  refine (owhere_any s _ (HL.out.ext HE.out).t hsm).mono ?_
  rw [HS.out.1, HS.out.2.1, HS.out.2.2.1, HS.out.2.2.2]
  rintro e w2 ⟨rfl, hx⟩
  have HE := Lib.hid (HE.out.trans hx)
  clear hx
  go_wp2_with fail
  refine (first_any _ _ _ (HL.out.ext HE.out).t).mono ?_
  rw [HF.out]
  rintro e w2 ⟨rfl, hx⟩
  have HE := Lib.hid (HE.out.trans hx)
  clear hx
  go_wp2_with fail
  go_ret
  exact ⟨rfl, HE.out⟩

set_option maxRecDepth 100000 in
set_option maxHeartbeats 3200000 in
theorem tagWhere_N2 (s : Int) (r p : Int) (w : World) (hL : LaidA w) (hs : s < 0) (hp : 0 ≤ p) (hpl2 : (plc r : Int) ≤ p) :
    Calls Tryd.prog 6 #[.int .i64 s, .int .i64 r, .int .i64 p] w fun e w' => e = .returned (.bool true) ∧ Ext w w' := by
  have HL := Lib.hid hL
  have HS := Lib.hid (where_no (s := s) (.inl hs))
  have hsm : s ≤ 9223372036854775807 := by omega
  have HF := Lib.hid (firstS_no (r := r) (p := p) (by omega))
  clear hL
  go_enter Tryd.func6, Tryd.ntmps6
  go_wp2_with fail
  refine (tawake_any _ HL.out).mono ?_
  rintro e w1 ⟨rfl, hx⟩
  have HE := Lib.hid hx
  clear hx
  go_wp2_with fail
  refine (owhere_any s _ (HL.out.ext HE.out).t hsm).mono ?_
  rw [HS.out.1, HS.out.2.1, HS.out.2.2.1, HS.out.2.2.2]
  rintro e w2 ⟨rfl, hx⟩
  have HE := Lib.hid (HE.out.trans hx)
  clear hx
  go_wp2_with fail
  refine (first_any _ _ _ (HL.out.ext HE.out).t).mono ?_
  rw [HF.out]
  rintro e w2 ⟨rfl, hx⟩
  have HE := Lib.hid (HE.out.trans hx)
  clear hx
  go_wp2_with fail
  refine (places_any _ _ (HL.out.ext HE.out).t).mono ?_
  rintro e w2 ⟨rfl, hx⟩
  have HE := Lib.hid (HE.out.trans hx)
  clear hx
  go_wp2_with fail
  go_ret
  exact ⟨rfl, HE.out⟩

set_option maxRecDepth 100000 in
set_option maxHeartbeats 3200000 in
theorem tagWhere_N3 (s : Int) (r p M : Nat) (w : World) (hL : LaidA w) (hs : s < 0) (HSP : Hid (Spot r p M)) (hp0 : 0 < p) (hpb : p ≤ 48) (HP : Hid (firstS (r : Int) ((p : Int) - 1) = (M : Int) - wid (r : Int))) :
    Calls Tryd.prog 6 #[.int .i64 s, .int .i64 r, .int .i64 p] w fun e w' => e = .returned (.bool true) ∧ Ext w w' := by
  have HL := Lib.hid hL
  have HS := Lib.hid (where_no (s := s) (.inl hs))
  have hsm : s ≤ 9223372036854775807 := by omega
  have HF := Lib.hid HSP.out.first
  have hmo := HSP.out.most
  have hw := wid_le (r : Int)
  clear hL
  go_enter Tryd.func6, Tryd.ntmps6
  go_wp2_with fail
  refine (tawake_any _ HL.out).mono ?_
  rintro e w1 ⟨rfl, hx⟩
  have HE := Lib.hid hx
  clear hx
  go_wp2_with fail
  refine (owhere_any s _ (HL.out.ext HE.out).t hsm).mono ?_
  rw [HS.out.1, HS.out.2.1, HS.out.2.2.1, HS.out.2.2.2]
  rintro e w2 ⟨rfl, hx⟩
  have HE := Lib.hid (HE.out.trans hx)
  clear hx
  go_wp2_with fail
  refine (first_any _ _ _ (HL.out.ext HE.out).t).mono ?_
  rw [HF.out]
  rintro e w2 ⟨rfl, hx⟩
  have HE := Lib.hid (HE.out.trans hx)
  clear hx
  go_wp2_with fail
  go_loopw [12] (fun i wr => ∃ j : Nat, j ≤ wid (r : Int) ∧ i = .int .i64 j ∧ Hid (Ext w wr)) (fun i _ => wid (r : Int) - (intOf i).toNat)
  case atStart => exact ⟨0, Nat.zero_le _, rfl, HE⟩
  case round =>
    obtain ⟨j, hj, rfl, HE⟩ := hrel
    by_cases hjl : j < wid (r : Int)
    · have HW := Lib.hid (HSP.out.each j hjl)
      go_wp2_with fail
      refine (wide_any _ _ (HL.out.ext HE.out).t).mono ?_
      rintro e w3 ⟨rfl, hx⟩
      have HE := Lib.hid (HE.out.trans hx)
      clear hx
      go_wp2_with fail
      refine (owhere_any _ _ (HL.out.ext HE.out).t (by omega)).mono ?_
      rw [HW.out.1, HW.out.2.1, HW.out.2.2.1, HW.out.2.2.2]
      rintro e w4 ⟨rfl, hx⟩
      have HE := Lib.hid (HE.out.trans hx)
      clear hx
      go_wp2_with fail
      go_roundw
      case rel => exact ⟨j + 1, by omega, by go_num, HE⟩
      case measure => simp [intOf]; omega
    · go_wp2_with fail
      refine (wide_any _ _ (HL.out.ext HE.out).t).mono ?_
      rintro e w3 ⟨rfl, hx⟩
      have HE := Lib.hid (HE.out.trans hx)
      clear hx
      go_wp2_with fail
      refine (first_any _ _ _ (HL.out.ext HE.out).t).mono ?_
      rw [HP.out]
      rintro e w4 ⟨rfl, hx⟩
      have HE := Lib.hid (HE.out.trans hx)
      clear hx
      go_wp2_with fail
      refine (wide_any _ _ (HL.out.ext HE.out).t).mono ?_
      rintro e w5 ⟨rfl, hx⟩
      have HE := Lib.hid (HE.out.trans hx)
      clear hx
      go_wp2_with fail
      go_ret
      exact ⟨by simp, HE.out⟩

set_option maxRecDepth 100000 in
set_option maxHeartbeats 3200000 in
theorem tagWhere_N4 (s : Int) (r M : Nat) (w : World) (hL : LaidA w) (hs : s < 0) (HSP : Hid (Spot0 r M)) (hr : ((r : Int) == 1) = true) (hM : ((M : Int) == 0) = true) :
    Calls Tryd.prog 6 #[.int .i64 s, .int .i64 r, .int .i64 0] w fun e w' => e = .returned (.bool true) ∧ Ext w w' := by
  have HL := Lib.hid hL
  have HS := Lib.hid (where_no (s := s) (.inl hs))
  have hsm : s ≤ 9223372036854775807 := by omega
  have HF := Lib.hid HSP.out.first
  have hmo := HSP.out.most
  have hw := wid_le (r : Int)
  clear hL
  go_enter Tryd.func6, Tryd.ntmps6
  go_wp2_with fail
  refine (tawake_any _ HL.out).mono ?_
  rintro e w1 ⟨rfl, hx⟩
  have HE := Lib.hid hx
  clear hx
  go_wp2_with fail
  refine (owhere_any s _ (HL.out.ext HE.out).t hsm).mono ?_
  rw [HS.out.1, HS.out.2.1, HS.out.2.2.1, HS.out.2.2.2]
  rintro e w2 ⟨rfl, hx⟩
  have HE := Lib.hid (HE.out.trans hx)
  clear hx
  go_wp2_with fail
  refine (first_any _ _ _ (HL.out.ext HE.out).t).mono ?_
  rw [HF.out]
  rintro e w2 ⟨rfl, hx⟩
  have HE := Lib.hid (HE.out.trans hx)
  clear hx
  go_wp2_with fail
  go_loopw [12] (fun i wr => ∃ j : Nat, j ≤ wid (r : Int) ∧ i = .int .i64 j ∧ Hid (Ext w wr)) (fun i _ => wid (r : Int) - (intOf i).toNat)
  case atStart => exact ⟨0, Nat.zero_le _, rfl, HE⟩
  case round =>
    obtain ⟨j, hj, rfl, HE⟩ := hrel
    by_cases hjl : j < wid (r : Int)
    · have HW := Lib.hid (HSP.out.each j hjl)
      go_wp2_with fail
      refine (wide_any _ _ (HL.out.ext HE.out).t).mono ?_
      rintro e w3 ⟨rfl, hx⟩
      have HE := Lib.hid (HE.out.trans hx)
      clear hx
      go_wp2_with fail
      refine (owhere_any _ _ (HL.out.ext HE.out).t (by omega)).mono ?_
      rw [HW.out.1, HW.out.2.1, HW.out.2.2.1, HW.out.2.2.2]
      rintro e w4 ⟨rfl, hx⟩
      have HE := Lib.hid (HE.out.trans hx)
      clear hx
      go_wp2_with fail
      go_roundw
      case rel => exact ⟨j + 1, by omega, by go_num, HE⟩
      case measure => simp [intOf]; omega
    · go_wp2_with fail
      refine (wide_any _ _ (HL.out.ext HE.out).t).mono ?_
      rintro e w3 ⟨rfl, hx⟩
      have HE := Lib.hid (HE.out.trans hx)
      clear hx
      go_wp2_with fail
      go_ret
      exact ⟨by simp, HE.out⟩

set_option maxRecDepth 100000 in
set_option maxHeartbeats 3200000 in
theorem tagWhere_N5 (s : Int) (r M : Nat) (w : World) (hL : LaidA w) (hs : s < 0) (HSP : Hid (Spot0 r M)) (h2 : 2 ≤ r) (hr5 : r ≤ 5) (hr : ((r : Int) == 1) = false) (HP : Hid (firstS ((r : Int) - 1) ((plc ((r : Int) - 1) : Int) - 1) = (M : Int) - wid ((r : Int) - 1))) (hp1 : 1 ≤ plc ((r : Int) - 1)) (hwM : wid ((r : Int) - 1) ≤ M) :
    Calls Tryd.prog 6 #[.int .i64 s, .int .i64 r, .int .i64 0] w fun e w' => e = .returned (.bool true) ∧ Ext w w' := by
  have HL := Lib.hid hL
  have HS := Lib.hid (where_no (s := s) (.inl hs))
  have hsm : s ≤ 9223372036854775807 := by omega
  have HF := Lib.hid HSP.out.first
  have hmo := HSP.out.most
  have hw := wid_le (r : Int)
  have hpl3 := plc_le ((r : Int) - 1)
  clear hL
  go_enter Tryd.func6, Tryd.ntmps6
  go_wp2_with fail
  refine (tawake_any _ HL.out).mono ?_
  rintro e w1 ⟨rfl, hx⟩
  have HE := Lib.hid hx
  clear hx
  go_wp2_with fail
  refine (owhere_any s _ (HL.out.ext HE.out).t hsm).mono ?_
  rw [HS.out.1, HS.out.2.1, HS.out.2.2.1, HS.out.2.2.2]
  rintro e w2 ⟨rfl, hx⟩
  have HE := Lib.hid (HE.out.trans hx)
  clear hx
  go_wp2_with fail
  refine (first_any _ _ _ (HL.out.ext HE.out).t).mono ?_
  rw [HF.out]
  rintro e w2 ⟨rfl, hx⟩
  have HE := Lib.hid (HE.out.trans hx)
  clear hx
  go_wp2_with fail
  go_loopw [12] (fun i wr => ∃ j : Nat, j ≤ wid (r : Int) ∧ i = .int .i64 j ∧ Hid (Ext w wr)) (fun i _ => wid (r : Int) - (intOf i).toNat)
  case atStart => exact ⟨0, Nat.zero_le _, rfl, HE⟩
  case round =>
    obtain ⟨j, hj, rfl, HE⟩ := hrel
    by_cases hjl : j < wid (r : Int)
    · have HW := Lib.hid (HSP.out.each j hjl)
      go_wp2_with fail
      refine (wide_any _ _ (HL.out.ext HE.out).t).mono ?_
      rintro e w3 ⟨rfl, hx⟩
      have HE := Lib.hid (HE.out.trans hx)
      clear hx
      go_wp2_with fail
      refine (owhere_any _ _ (HL.out.ext HE.out).t (by omega)).mono ?_
      rw [HW.out.1, HW.out.2.1, HW.out.2.2.1, HW.out.2.2.2]
      rintro e w4 ⟨rfl, hx⟩
      have HE := Lib.hid (HE.out.trans hx)
      clear hx
      go_wp2_with fail
      go_roundw
      case rel => exact ⟨j + 1, by omega, by go_num, HE⟩
      case measure => simp [intOf]; omega
    · go_wp2_with fail
      refine (wide_any _ _ (HL.out.ext HE.out).t).mono ?_
      rintro e w3 ⟨rfl, hx⟩
      have HE := Lib.hid (HE.out.trans hx)
      clear hx
      go_wp2_with fail
      refine (places_any _ _ (HL.out.ext HE.out).t).mono ?_
      rintro e w4 ⟨rfl, hx⟩
      have HE := Lib.hid (HE.out.trans hx)
      clear hx
      go_wp2_with fail
      refine (first_any _ _ _ (HL.out.ext HE.out).t).mono ?_
      rw [HP.out]
      rintro e w5 ⟨rfl, hx⟩
      have HE := Lib.hid (HE.out.trans hx)
      clear hx
      go_wp2_with fail
      refine (wide_any _ _ (HL.out.ext HE.out).t).mono ?_
      rintro e w6 ⟨rfl, hx⟩
      have HE := Lib.hid (HE.out.trans hx)
      clear hx
      go_wp2_with fail
      go_ret
      exact ⟨by simp, HE.out⟩

set_option maxRecDepth 100000 in
set_option maxHeartbeats 3200000 in
theorem tagWhere_B1 (s : Int) (r p : Int) (w : World) (hL : LaidA w) (hs : 156 ≤ s) (hsm : s ≤ 9223372036854775807) (hp : p < 0) :
    Calls Tryd.prog 6 #[.int .i64 s, .int .i64 r, .int .i64 p] w fun e w' => e = .returned (.bool true) ∧ Ext w w' := by
  have HL := Lib.hid hL
  have HS := Lib.hid (where_no (s := s) (.inr hs))
  have HF := Lib.hid (firstS_no (r := r) (p := p) (by omega))
  clear hL
  go_enter Tryd.func6, Tryd.ntmps6
  go_wp2_with fail
  refine (tawake_any _ HL.out).mono ?_
  rintro e w1 ⟨rfl, hx⟩
  have HE := Lib.hid hx
  clear hx
  go_wp2_with fail
  refine (owhere_any s _ (HL.out.ext HE.out).t hsm).mono ?_
  rw [HS.out.1, HS.out.2.1, HS.out.2.2.1, HS.out.2.2.2]
  rintro e w2 ⟨rfl, hx⟩
  have HE := Lib.hid (HE.out.trans hx)
  clear hx
  go_wp2_with fail
  refine (all_any _ (HL.out.ext HE.out).t).mono ?_
  rintro e w2 ⟨rfl, hx⟩
  have HE := Lib.hid (HE.out.trans hx)
  clear hx
  go_wp2_with fail
  refine (first_any _ _ _ (HL.out.ext HE.out).t).mono ?_
  rw [HF.out]
  rintro e w2 ⟨rfl, hx⟩
  have HE := Lib.hid (HE.out.trans hx)
  clear hx
  go_wp2_with fail
  go_ret
  exact ⟨rfl, HE.out⟩

set_option maxRecDepth 100000 in
set_option maxHeartbeats 3200000 in
theorem tagWhere_B2 (s : Int) (r p : Int) (w : World) (hL : LaidA w) (hs : 156 ≤ s) (hsm : s ≤ 9223372036854775807) (hp : 0 ≤ p) (hpl2 : (plc r : Int) ≤ p) :
    Calls Tryd.prog 6 #[.int .i64 s, .int .i64 r, .int .i64 p] w fun e w' => e = .returned (.bool true) ∧ Ext w w' := by
  have HL := Lib.hid hL
  have HS := Lib.hid (where_no (s := s) (.inr hs))
  have HF := Lib.hid (firstS_no (r := r) (p := p) (by omega))
  clear hL
  go_enter Tryd.func6, Tryd.ntmps6
  go_wp2_with fail
  refine (tawake_any _ HL.out).mono ?_
  rintro e w1 ⟨rfl, hx⟩
  have HE := Lib.hid hx
  clear hx
  go_wp2_with fail
  refine (owhere_any s _ (HL.out.ext HE.out).t hsm).mono ?_
  rw [HS.out.1, HS.out.2.1, HS.out.2.2.1, HS.out.2.2.2]
  rintro e w2 ⟨rfl, hx⟩
  have HE := Lib.hid (HE.out.trans hx)
  clear hx
  go_wp2_with fail
  refine (all_any _ (HL.out.ext HE.out).t).mono ?_
  rintro e w2 ⟨rfl, hx⟩
  have HE := Lib.hid (HE.out.trans hx)
  clear hx
  go_wp2_with fail
  refine (first_any _ _ _ (HL.out.ext HE.out).t).mono ?_
  rw [HF.out]
  rintro e w2 ⟨rfl, hx⟩
  have HE := Lib.hid (HE.out.trans hx)
  clear hx
  go_wp2_with fail
  refine (places_any _ _ (HL.out.ext HE.out).t).mono ?_
  rintro e w2 ⟨rfl, hx⟩
  have HE := Lib.hid (HE.out.trans hx)
  clear hx
  go_wp2_with fail
  go_ret
  exact ⟨rfl, HE.out⟩

set_option maxRecDepth 100000 in
set_option maxHeartbeats 3200000 in
theorem tagWhere_B3 (s : Int) (r p M : Nat) (w : World) (hL : LaidA w) (hs : 156 ≤ s) (hsm : s ≤ 9223372036854775807) (HSP : Hid (Spot r p M)) (hp0 : 0 < p) (hpb : p ≤ 48) (HP : Hid (firstS (r : Int) ((p : Int) - 1) = (M : Int) - wid (r : Int))) :
    Calls Tryd.prog 6 #[.int .i64 s, .int .i64 r, .int .i64 p] w fun e w' => e = .returned (.bool true) ∧ Ext w w' := by
  have HL := Lib.hid hL
  have HS := Lib.hid (where_no (s := s) (.inr hs))
  have HF := Lib.hid HSP.out.first
  have hmo := HSP.out.most
  have hw := wid_le (r : Int)
  clear hL
  go_enter Tryd.func6, Tryd.ntmps6
  go_wp2_with fail
  refine (tawake_any _ HL.out).mono ?_
  rintro e w1 ⟨rfl, hx⟩
  have HE := Lib.hid hx
  clear hx
  go_wp2_with fail
  refine (owhere_any s _ (HL.out.ext HE.out).t hsm).mono ?_
  rw [HS.out.1, HS.out.2.1, HS.out.2.2.1, HS.out.2.2.2]
  rintro e w2 ⟨rfl, hx⟩
  have HE := Lib.hid (HE.out.trans hx)
  clear hx
  go_wp2_with fail
  refine (all_any _ (HL.out.ext HE.out).t).mono ?_
  rintro e w2 ⟨rfl, hx⟩
  have HE := Lib.hid (HE.out.trans hx)
  clear hx
  go_wp2_with fail
  refine (first_any _ _ _ (HL.out.ext HE.out).t).mono ?_
  rw [HF.out]
  rintro e w2 ⟨rfl, hx⟩
  have HE := Lib.hid (HE.out.trans hx)
  clear hx
  go_wp2_with fail
  go_loopw [12] (fun i wr => ∃ j : Nat, j ≤ wid (r : Int) ∧ i = .int .i64 j ∧ Hid (Ext w wr)) (fun i _ => wid (r : Int) - (intOf i).toNat)
  case atStart => exact ⟨0, Nat.zero_le _, rfl, HE⟩
  case round =>
    obtain ⟨j, hj, rfl, HE⟩ := hrel
    by_cases hjl : j < wid (r : Int)
    · have HW := Lib.hid (HSP.out.each j hjl)
      go_wp2_with fail
      refine (wide_any _ _ (HL.out.ext HE.out).t).mono ?_
      rintro e w3 ⟨rfl, hx⟩
      have HE := Lib.hid (HE.out.trans hx)
      clear hx
      go_wp2_with fail
      refine (owhere_any _ _ (HL.out.ext HE.out).t (by omega)).mono ?_
      rw [HW.out.1, HW.out.2.1, HW.out.2.2.1, HW.out.2.2.2]
      rintro e w4 ⟨rfl, hx⟩
      have HE := Lib.hid (HE.out.trans hx)
      clear hx
      go_wp2_with fail
      go_roundw
      case rel => exact ⟨j + 1, by omega, by go_num, HE⟩
      case measure => simp [intOf]; omega
    · go_wp2_with fail
      refine (wide_any _ _ (HL.out.ext HE.out).t).mono ?_
      rintro e w3 ⟨rfl, hx⟩
      have HE := Lib.hid (HE.out.trans hx)
      clear hx
      go_wp2_with fail
      refine (first_any _ _ _ (HL.out.ext HE.out).t).mono ?_
      rw [HP.out]
      rintro e w4 ⟨rfl, hx⟩
      have HE := Lib.hid (HE.out.trans hx)
      clear hx
      go_wp2_with fail
      refine (wide_any _ _ (HL.out.ext HE.out).t).mono ?_
      rintro e w5 ⟨rfl, hx⟩
      have HE := Lib.hid (HE.out.trans hx)
      clear hx
      go_wp2_with fail
      go_ret
      exact ⟨by simp, HE.out⟩

set_option maxRecDepth 100000 in
set_option maxHeartbeats 3200000 in
theorem tagWhere_B4 (s : Int) (r M : Nat) (w : World) (hL : LaidA w) (hs : 156 ≤ s) (hsm : s ≤ 9223372036854775807) (HSP : Hid (Spot0 r M)) (hr : ((r : Int) == 1) = true) (hM : ((M : Int) == 0) = true) :
    Calls Tryd.prog 6 #[.int .i64 s, .int .i64 r, .int .i64 0] w fun e w' => e = .returned (.bool true) ∧ Ext w w' := by
  have HL := Lib.hid hL
  have HS := Lib.hid (where_no (s := s) (.inr hs))
  have HF := Lib.hid HSP.out.first
  have hmo := HSP.out.most
  have hw := wid_le (r : Int)
  clear hL
  go_enter Tryd.func6, Tryd.ntmps6
  go_wp2_with fail
  refine (tawake_any _ HL.out).mono ?_
  rintro e w1 ⟨rfl, hx⟩
  have HE := Lib.hid hx
  clear hx
  go_wp2_with fail
  refine (owhere_any s _ (HL.out.ext HE.out).t hsm).mono ?_
  rw [HS.out.1, HS.out.2.1, HS.out.2.2.1, HS.out.2.2.2]
  rintro e w2 ⟨rfl, hx⟩
  have HE := Lib.hid (HE.out.trans hx)
  clear hx
  go_wp2_with fail
  refine (all_any _ (HL.out.ext HE.out).t).mono ?_
  rintro e w2 ⟨rfl, hx⟩
  have HE := Lib.hid (HE.out.trans hx)
  clear hx
  go_wp2_with fail
  refine (first_any _ _ _ (HL.out.ext HE.out).t).mono ?_
  rw [HF.out]
  rintro e w2 ⟨rfl, hx⟩
  have HE := Lib.hid (HE.out.trans hx)
  clear hx
  go_wp2_with fail
  go_loopw [12] (fun i wr => ∃ j : Nat, j ≤ wid (r : Int) ∧ i = .int .i64 j ∧ Hid (Ext w wr)) (fun i _ => wid (r : Int) - (intOf i).toNat)
  case atStart => exact ⟨0, Nat.zero_le _, rfl, HE⟩
  case round =>
    obtain ⟨j, hj, rfl, HE⟩ := hrel
    by_cases hjl : j < wid (r : Int)
    · have HW := Lib.hid (HSP.out.each j hjl)
      go_wp2_with fail
      refine (wide_any _ _ (HL.out.ext HE.out).t).mono ?_
      rintro e w3 ⟨rfl, hx⟩
      have HE := Lib.hid (HE.out.trans hx)
      clear hx
      go_wp2_with fail
      refine (owhere_any _ _ (HL.out.ext HE.out).t (by omega)).mono ?_
      rw [HW.out.1, HW.out.2.1, HW.out.2.2.1, HW.out.2.2.2]
      rintro e w4 ⟨rfl, hx⟩
      have HE := Lib.hid (HE.out.trans hx)
      clear hx
      go_wp2_with fail
      go_roundw
      case rel => exact ⟨j + 1, by omega, by go_num, HE⟩
      case measure => simp [intOf]; omega
    · go_wp2_with fail
      refine (wide_any _ _ (HL.out.ext HE.out).t).mono ?_
      rintro e w3 ⟨rfl, hx⟩
      have HE := Lib.hid (HE.out.trans hx)
      clear hx
      go_wp2_with fail
      go_ret
      exact ⟨by simp, HE.out⟩

set_option maxRecDepth 100000 in
set_option maxHeartbeats 3200000 in
theorem tagWhere_B5 (s : Int) (r M : Nat) (w : World) (hL : LaidA w) (hs : 156 ≤ s) (hsm : s ≤ 9223372036854775807) (HSP : Hid (Spot0 r M)) (h2 : 2 ≤ r) (hr5 : r ≤ 5) (hr : ((r : Int) == 1) = false) (HP : Hid (firstS ((r : Int) - 1) ((plc ((r : Int) - 1) : Int) - 1) = (M : Int) - wid ((r : Int) - 1))) (hp1 : 1 ≤ plc ((r : Int) - 1)) (hwM : wid ((r : Int) - 1) ≤ M) :
    Calls Tryd.prog 6 #[.int .i64 s, .int .i64 r, .int .i64 0] w fun e w' => e = .returned (.bool true) ∧ Ext w w' := by
  have HL := Lib.hid hL
  have HS := Lib.hid (where_no (s := s) (.inr hs))
  have HF := Lib.hid HSP.out.first
  have hmo := HSP.out.most
  have hw := wid_le (r : Int)
  have hpl3 := plc_le ((r : Int) - 1)
  clear hL
  go_enter Tryd.func6, Tryd.ntmps6
  go_wp2_with fail
  refine (tawake_any _ HL.out).mono ?_
  rintro e w1 ⟨rfl, hx⟩
  have HE := Lib.hid hx
  clear hx
  go_wp2_with fail
  refine (owhere_any s _ (HL.out.ext HE.out).t hsm).mono ?_
  rw [HS.out.1, HS.out.2.1, HS.out.2.2.1, HS.out.2.2.2]
  rintro e w2 ⟨rfl, hx⟩
  have HE := Lib.hid (HE.out.trans hx)
  clear hx
  go_wp2_with fail
  refine (all_any _ (HL.out.ext HE.out).t).mono ?_
  rintro e w2 ⟨rfl, hx⟩
  have HE := Lib.hid (HE.out.trans hx)
  clear hx
  go_wp2_with fail
  refine (first_any _ _ _ (HL.out.ext HE.out).t).mono ?_
  rw [HF.out]
  rintro e w2 ⟨rfl, hx⟩
  have HE := Lib.hid (HE.out.trans hx)
  clear hx
  go_wp2_with fail
  go_loopw [12] (fun i wr => ∃ j : Nat, j ≤ wid (r : Int) ∧ i = .int .i64 j ∧ Hid (Ext w wr)) (fun i _ => wid (r : Int) - (intOf i).toNat)
  case atStart => exact ⟨0, Nat.zero_le _, rfl, HE⟩
  case round =>
    obtain ⟨j, hj, rfl, HE⟩ := hrel
    by_cases hjl : j < wid (r : Int)
    · have HW := Lib.hid (HSP.out.each j hjl)
      go_wp2_with fail
      refine (wide_any _ _ (HL.out.ext HE.out).t).mono ?_
      rintro e w3 ⟨rfl, hx⟩
      have HE := Lib.hid (HE.out.trans hx)
      clear hx
      go_wp2_with fail
      refine (owhere_any _ _ (HL.out.ext HE.out).t (by omega)).mono ?_
      rw [HW.out.1, HW.out.2.1, HW.out.2.2.1, HW.out.2.2.2]
      rintro e w4 ⟨rfl, hx⟩
      have HE := Lib.hid (HE.out.trans hx)
      clear hx
      go_wp2_with fail
      go_roundw
      case rel => exact ⟨j + 1, by omega, by go_num, HE⟩
      case measure => simp [intOf]; omega
    · go_wp2_with fail
      refine (wide_any _ _ (HL.out.ext HE.out).t).mono ?_
      rintro e w3 ⟨rfl, hx⟩
      have HE := Lib.hid (HE.out.trans hx)
      clear hx
      go_wp2_with fail
      refine (places_any _ _ (HL.out.ext HE.out).t).mono ?_
      rintro e w4 ⟨rfl, hx⟩
      have HE := Lib.hid (HE.out.trans hx)
      clear hx
      go_wp2_with fail
      refine (first_any _ _ _ (HL.out.ext HE.out).t).mono ?_
      rw [HP.out]
      rintro e w5 ⟨rfl, hx⟩
      have HE := Lib.hid (HE.out.trans hx)
      clear hx
      go_wp2_with fail
      refine (wide_any _ _ (HL.out.ext HE.out).t).mono ?_
      rintro e w6 ⟨rfl, hx⟩
      have HE := Lib.hid (HE.out.trans hx)
      clear hx
      go_wp2_with fail
      go_ret
      exact ⟨by simp, HE.out⟩

set_option maxRecDepth 100000 in
set_option maxHeartbeats 3200000 in
theorem tagWhere_I1 (s : Int) (r p : Int) (w : World) (hL : LaidA w) (hs0 : 0 ≤ s) (hs1 : s < 156) (hp : p < 0) :
    Calls Tryd.prog 6 #[.int .i64 s, .int .i64 r, .int .i64 p] w fun e w' => e = .returned (.bool true) ∧ Ext w w' := by
  have HL := Lib.hid hL
  obtain ⟨a, q, k, e1, e2, e3, e4, hq, hk, e5, hks⟩ := where_in hs0 hs1
  have hsm : s ≤ 9223372036854775807 := by omega
  have HS := Lib.hid (And.intro e1 (And.intro e2 (And.intro e3 e4)))
  have HF5 := Lib.hid e5
  have hpl := plc_le (a : Int)
  have hwl := wid_le (a : Int)
  clear e1 e2 e3 e4 e5
  have HF := Lib.hid (firstS_no (r := r) (p := p) (by omega))
  clear hL
  go_enter Tryd.func6, Tryd.ntmps6
  go_wp2_with fail
  refine (tawake_any _ HL.out).mono ?_
  rintro e w1 ⟨rfl, hx⟩
  have HE := Lib.hid hx
  clear hx
  go_wp2_with fail
  refine (owhere_any s _ (HL.out.ext HE.out).t hsm).mono ?_
  rw [HS.out.1, HS.out.2.1, HS.out.2.2.1, HS.out.2.2.2]
  rintro e w2 ⟨rfl, hx⟩
  have HE := Lib.hid (HE.out.trans hx)
  clear hx
  go_wp2_with fail
  refine (all_any _ (HL.out.ext HE.out).t).mono ?_
  rintro e w2 ⟨rfl, hx⟩
  have HE := Lib.hid (HE.out.trans hx)
  clear hx
  go_wp2_with fail
  refine (places_any _ _ (HL.out.ext HE.out).t).mono ?_
  rintro e w2 ⟨rfl, hx⟩
  have HE := Lib.hid (HE.out.trans hx)
  clear hx
  go_wp2_with fail
  refine (wide_any _ _ (HL.out.ext HE.out).t).mono ?_
  rintro e w2 ⟨rfl, hx⟩
  have HE := Lib.hid (HE.out.trans hx)
  clear hx
  go_wp2_with fail
  refine (first_any _ _ _ (HL.out.ext HE.out).t).mono ?_
  rw [HF5.out]
  rintro e w2 ⟨rfl, hx⟩
  have HE := Lib.hid (HE.out.trans hx)
  clear hx
  go_wp2_with fail
  refine (first_any _ _ _ (HL.out.ext HE.out).t).mono ?_
  rw [HF.out]
  rintro e w2 ⟨rfl, hx⟩
  have HE := Lib.hid (HE.out.trans hx)
  clear hx
  go_wp2_with fail
  go_ret
  exact ⟨rfl, HE.out⟩

set_option maxRecDepth 100000 in
set_option maxHeartbeats 3200000 in
theorem tagWhere_I2 (s : Int) (r p : Int) (w : World) (hL : LaidA w) (hs0 : 0 ≤ s) (hs1 : s < 156) (hp : 0 ≤ p) (hpl2 : (plc r : Int) ≤ p) :
    Calls Tryd.prog 6 #[.int .i64 s, .int .i64 r, .int .i64 p] w fun e w' => e = .returned (.bool true) ∧ Ext w w' := by
  have HL := Lib.hid hL
  obtain ⟨a, q, k, e1, e2, e3, e4, hq, hk, e5, hks⟩ := where_in hs0 hs1
  have hsm : s ≤ 9223372036854775807 := by omega
  have HS := Lib.hid (And.intro e1 (And.intro e2 (And.intro e3 e4)))
  have HF5 := Lib.hid e5
  have hpl := plc_le (a : Int)
  have hwl := wid_le (a : Int)
  clear e1 e2 e3 e4 e5
  have HF := Lib.hid (firstS_no (r := r) (p := p) (by omega))
  clear hL
  go_enter Tryd.func6, Tryd.ntmps6
  go_wp2_with fail
  refine (tawake_any _ HL.out).mono ?_
  rintro e w1 ⟨rfl, hx⟩
  have HE := Lib.hid hx
  clear hx
  go_wp2_with fail
  refine (owhere_any s _ (HL.out.ext HE.out).t hsm).mono ?_
  rw [HS.out.1, HS.out.2.1, HS.out.2.2.1, HS.out.2.2.2]
  rintro e w2 ⟨rfl, hx⟩
  have HE := Lib.hid (HE.out.trans hx)
  clear hx
  go_wp2_with fail
  refine (all_any _ (HL.out.ext HE.out).t).mono ?_
  rintro e w2 ⟨rfl, hx⟩
  have HE := Lib.hid (HE.out.trans hx)
  clear hx
  go_wp2_with fail
  refine (places_any _ _ (HL.out.ext HE.out).t).mono ?_
  rintro e w2 ⟨rfl, hx⟩
  have HE := Lib.hid (HE.out.trans hx)
  clear hx
  go_wp2_with fail
  refine (wide_any _ _ (HL.out.ext HE.out).t).mono ?_
  rintro e w2 ⟨rfl, hx⟩
  have HE := Lib.hid (HE.out.trans hx)
  clear hx
  go_wp2_with fail
  refine (first_any _ _ _ (HL.out.ext HE.out).t).mono ?_
  rw [HF5.out]
  rintro e w2 ⟨rfl, hx⟩
  have HE := Lib.hid (HE.out.trans hx)
  clear hx
  go_wp2_with fail
  refine (first_any _ _ _ (HL.out.ext HE.out).t).mono ?_
  rw [HF.out]
  rintro e w2 ⟨rfl, hx⟩
  have HE := Lib.hid (HE.out.trans hx)
  clear hx
  go_wp2_with fail
  refine (places_any _ _ (HL.out.ext HE.out).t).mono ?_
  rintro e w2 ⟨rfl, hx⟩
  have HE := Lib.hid (HE.out.trans hx)
  clear hx
  go_wp2_with fail
  go_ret
  exact ⟨rfl, HE.out⟩

set_option maxRecDepth 100000 in
set_option maxHeartbeats 3200000 in
theorem tagWhere_I3 (s : Int) (r p M : Nat) (w : World) (hL : LaidA w) (hs0 : 0 ≤ s) (hs1 : s < 156) (HSP : Hid (Spot r p M)) (hp0 : 0 < p) (hpb : p ≤ 48) (HP : Hid (firstS (r : Int) ((p : Int) - 1) = (M : Int) - wid (r : Int))) :
    Calls Tryd.prog 6 #[.int .i64 s, .int .i64 r, .int .i64 p] w fun e w' => e = .returned (.bool true) ∧ Ext w w' := by
  have HL := Lib.hid hL
  obtain ⟨a, q, k, e1, e2, e3, e4, hq, hk, e5, hks⟩ := where_in hs0 hs1
  have hsm : s ≤ 9223372036854775807 := by omega
  have HS := Lib.hid (And.intro e1 (And.intro e2 (And.intro e3 e4)))
  have HF5 := Lib.hid e5
  have hpl := plc_le (a : Int)
  have hwl := wid_le (a : Int)
  clear e1 e2 e3 e4 e5
  have HF := Lib.hid HSP.out.first
  have hmo := HSP.out.most
  have hw := wid_le (r : Int)
  clear hL
  go_enter Tryd.func6, Tryd.ntmps6
  go_wp2_with fail
  refine (tawake_any _ HL.out).mono ?_
  rintro e w1 ⟨rfl, hx⟩
  have HE := Lib.hid hx
  clear hx
  go_wp2_with fail
  refine (owhere_any s _ (HL.out.ext HE.out).t hsm).mono ?_
  rw [HS.out.1, HS.out.2.1, HS.out.2.2.1, HS.out.2.2.2]
  rintro e w2 ⟨rfl, hx⟩
  have HE := Lib.hid (HE.out.trans hx)
  clear hx
  go_wp2_with fail
  refine (all_any _ (HL.out.ext HE.out).t).mono ?_
  rintro e w2 ⟨rfl, hx⟩
  have HE := Lib.hid (HE.out.trans hx)
  clear hx
  go_wp2_with fail
  refine (places_any _ _ (HL.out.ext HE.out).t).mono ?_
  rintro e w2 ⟨rfl, hx⟩
  have HE := Lib.hid (HE.out.trans hx)
  clear hx
  go_wp2_with fail
  refine (wide_any _ _ (HL.out.ext HE.out).t).mono ?_
  rintro e w2 ⟨rfl, hx⟩
  have HE := Lib.hid (HE.out.trans hx)
  clear hx
  go_wp2_with fail
  refine (first_any _ _ _ (HL.out.ext HE.out).t).mono ?_
  rw [HF5.out]
  rintro e w2 ⟨rfl, hx⟩
  have HE := Lib.hid (HE.out.trans hx)
  clear hx
  go_wp2_with fail
  refine (first_any _ _ _ (HL.out.ext HE.out).t).mono ?_
  rw [HF.out]
  rintro e w2 ⟨rfl, hx⟩
  have HE := Lib.hid (HE.out.trans hx)
  clear hx
  go_wp2_with fail
  go_loopw [12] (fun i wr => ∃ j : Nat, j ≤ wid (r : Int) ∧ i = .int .i64 j ∧ Hid (Ext w wr)) (fun i _ => wid (r : Int) - (intOf i).toNat)
  case atStart => exact ⟨0, Nat.zero_le _, rfl, HE⟩
  case round =>
    obtain ⟨j, hj, rfl, HE⟩ := hrel
    by_cases hjl : j < wid (r : Int)
    · have HW := Lib.hid (HSP.out.each j hjl)
      go_wp2_with fail
      refine (wide_any _ _ (HL.out.ext HE.out).t).mono ?_
      rintro e w3 ⟨rfl, hx⟩
      have HE := Lib.hid (HE.out.trans hx)
      clear hx
      go_wp2_with fail
      refine (owhere_any _ _ (HL.out.ext HE.out).t (by omega)).mono ?_
      rw [HW.out.1, HW.out.2.1, HW.out.2.2.1, HW.out.2.2.2]
      rintro e w4 ⟨rfl, hx⟩
      have HE := Lib.hid (HE.out.trans hx)
      clear hx
      go_wp2_with fail
      go_roundw
      case rel => exact ⟨j + 1, by omega, by go_num, HE⟩
      case measure => simp [intOf]; omega
    · go_wp2_with fail
      refine (wide_any _ _ (HL.out.ext HE.out).t).mono ?_
      rintro e w3 ⟨rfl, hx⟩
      have HE := Lib.hid (HE.out.trans hx)
      clear hx
      go_wp2_with fail
      refine (first_any _ _ _ (HL.out.ext HE.out).t).mono ?_
      rw [HP.out]
      rintro e w4 ⟨rfl, hx⟩
      have HE := Lib.hid (HE.out.trans hx)
      clear hx
      go_wp2_with fail
      refine (wide_any _ _ (HL.out.ext HE.out).t).mono ?_
      rintro e w5 ⟨rfl, hx⟩
      have HE := Lib.hid (HE.out.trans hx)
      clear hx
      go_wp2_with fail
      go_ret
      exact ⟨by simp, HE.out⟩

set_option maxRecDepth 100000 in
set_option maxHeartbeats 3200000 in
theorem tagWhere_I4 (s : Int) (r M : Nat) (w : World) (hL : LaidA w) (hs0 : 0 ≤ s) (hs1 : s < 156) (HSP : Hid (Spot0 r M)) (hr : ((r : Int) == 1) = true) (hM : ((M : Int) == 0) = true) :
    Calls Tryd.prog 6 #[.int .i64 s, .int .i64 r, .int .i64 0] w fun e w' => e = .returned (.bool true) ∧ Ext w w' := by
  have HL := Lib.hid hL
  obtain ⟨a, q, k, e1, e2, e3, e4, hq, hk, e5, hks⟩ := where_in hs0 hs1
  have hsm : s ≤ 9223372036854775807 := by omega
  have HS := Lib.hid (And.intro e1 (And.intro e2 (And.intro e3 e4)))
  have HF5 := Lib.hid e5
  have hpl := plc_le (a : Int)
  have hwl := wid_le (a : Int)
  clear e1 e2 e3 e4 e5
  have HF := Lib.hid HSP.out.first
  have hmo := HSP.out.most
  have hw := wid_le (r : Int)
  clear hL
  go_enter Tryd.func6, Tryd.ntmps6
  go_wp2_with fail
  refine (tawake_any _ HL.out).mono ?_
  rintro e w1 ⟨rfl, hx⟩
  have HE := Lib.hid hx
  clear hx
  go_wp2_with fail
  refine (owhere_any s _ (HL.out.ext HE.out).t hsm).mono ?_
  rw [HS.out.1, HS.out.2.1, HS.out.2.2.1, HS.out.2.2.2]
  rintro e w2 ⟨rfl, hx⟩
  have HE := Lib.hid (HE.out.trans hx)
  clear hx
  go_wp2_with fail
  refine (all_any _ (HL.out.ext HE.out).t).mono ?_
  rintro e w2 ⟨rfl, hx⟩
  have HE := Lib.hid (HE.out.trans hx)
  clear hx
  go_wp2_with fail
  refine (places_any _ _ (HL.out.ext HE.out).t).mono ?_
  rintro e w2 ⟨rfl, hx⟩
  have HE := Lib.hid (HE.out.trans hx)
  clear hx
  go_wp2_with fail
  refine (wide_any _ _ (HL.out.ext HE.out).t).mono ?_
  rintro e w2 ⟨rfl, hx⟩
  have HE := Lib.hid (HE.out.trans hx)
  clear hx
  go_wp2_with fail
  refine (first_any _ _ _ (HL.out.ext HE.out).t).mono ?_
  rw [HF5.out]
  rintro e w2 ⟨rfl, hx⟩
  have HE := Lib.hid (HE.out.trans hx)
  clear hx
  go_wp2_with fail
  refine (first_any _ _ _ (HL.out.ext HE.out).t).mono ?_
  rw [HF.out]
  rintro e w2 ⟨rfl, hx⟩
  have HE := Lib.hid (HE.out.trans hx)
  clear hx
  go_wp2_with fail
  go_loopw [12] (fun i wr => ∃ j : Nat, j ≤ wid (r : Int) ∧ i = .int .i64 j ∧ Hid (Ext w wr)) (fun i _ => wid (r : Int) - (intOf i).toNat)
  case atStart => exact ⟨0, Nat.zero_le _, rfl, HE⟩
  case round =>
    obtain ⟨j, hj, rfl, HE⟩ := hrel
    by_cases hjl : j < wid (r : Int)
    · have HW := Lib.hid (HSP.out.each j hjl)
      go_wp2_with fail
      refine (wide_any _ _ (HL.out.ext HE.out).t).mono ?_
      rintro e w3 ⟨rfl, hx⟩
      have HE := Lib.hid (HE.out.trans hx)
      clear hx
      go_wp2_with fail
      refine (owhere_any _ _ (HL.out.ext HE.out).t (by omega)).mono ?_
      rw [HW.out.1, HW.out.2.1, HW.out.2.2.1, HW.out.2.2.2]
      rintro e w4 ⟨rfl, hx⟩
      have HE := Lib.hid (HE.out.trans hx)
      clear hx
      go_wp2_with fail
      go_roundw
      case rel => exact ⟨j + 1, by omega, by go_num, HE⟩
      case measure => simp [intOf]; omega
    · go_wp2_with fail
      refine (wide_any _ _ (HL.out.ext HE.out).t).mono ?_
      rintro e w3 ⟨rfl, hx⟩
      have HE := Lib.hid (HE.out.trans hx)
      clear hx
      go_wp2_with fail
      go_ret
      exact ⟨by simp, HE.out⟩

set_option maxRecDepth 100000 in
set_option maxHeartbeats 3200000 in
theorem tagWhere_I5 (s : Int) (r M : Nat) (w : World) (hL : LaidA w) (hs0 : 0 ≤ s) (hs1 : s < 156) (HSP : Hid (Spot0 r M)) (h2 : 2 ≤ r) (hr5 : r ≤ 5) (hr : ((r : Int) == 1) = false) (HP : Hid (firstS ((r : Int) - 1) ((plc ((r : Int) - 1) : Int) - 1) = (M : Int) - wid ((r : Int) - 1))) (hp1 : 1 ≤ plc ((r : Int) - 1)) (hwM : wid ((r : Int) - 1) ≤ M) :
    Calls Tryd.prog 6 #[.int .i64 s, .int .i64 r, .int .i64 0] w fun e w' => e = .returned (.bool true) ∧ Ext w w' := by
  have HL := Lib.hid hL
  obtain ⟨a, q, k, e1, e2, e3, e4, hq, hk, e5, hks⟩ := where_in hs0 hs1
  have hsm : s ≤ 9223372036854775807 := by omega
  have HS := Lib.hid (And.intro e1 (And.intro e2 (And.intro e3 e4)))
  have HF5 := Lib.hid e5
  have hpl := plc_le (a : Int)
  have hwl := wid_le (a : Int)
  clear e1 e2 e3 e4 e5
  have HF := Lib.hid HSP.out.first
  have hmo := HSP.out.most
  have hw := wid_le (r : Int)
  have hpl3 := plc_le ((r : Int) - 1)
  clear hL
  go_enter Tryd.func6, Tryd.ntmps6
  go_wp2_with fail
  refine (tawake_any _ HL.out).mono ?_
  rintro e w1 ⟨rfl, hx⟩
  have HE := Lib.hid hx
  clear hx
  go_wp2_with fail
  refine (owhere_any s _ (HL.out.ext HE.out).t hsm).mono ?_
  rw [HS.out.1, HS.out.2.1, HS.out.2.2.1, HS.out.2.2.2]
  rintro e w2 ⟨rfl, hx⟩
  have HE := Lib.hid (HE.out.trans hx)
  clear hx
  go_wp2_with fail
  refine (all_any _ (HL.out.ext HE.out).t).mono ?_
  rintro e w2 ⟨rfl, hx⟩
  have HE := Lib.hid (HE.out.trans hx)
  clear hx
  go_wp2_with fail
  refine (places_any _ _ (HL.out.ext HE.out).t).mono ?_
  rintro e w2 ⟨rfl, hx⟩
  have HE := Lib.hid (HE.out.trans hx)
  clear hx
  go_wp2_with fail
  refine (wide_any _ _ (HL.out.ext HE.out).t).mono ?_
  rintro e w2 ⟨rfl, hx⟩
  have HE := Lib.hid (HE.out.trans hx)
  clear hx
  go_wp2_with fail
  refine (first_any _ _ _ (HL.out.ext HE.out).t).mono ?_
  rw [HF5.out]
  rintro e w2 ⟨rfl, hx⟩
  have HE := Lib.hid (HE.out.trans hx)
  clear hx
  go_wp2_with fail
  refine (first_any _ _ _ (HL.out.ext HE.out).t).mono ?_
  rw [HF.out]
  rintro e w2 ⟨rfl, hx⟩
  have HE := Lib.hid (HE.out.trans hx)
  clear hx
  go_wp2_with fail
  go_loopw [12] (fun i wr => ∃ j : Nat, j ≤ wid (r : Int) ∧ i = .int .i64 j ∧ Hid (Ext w wr)) (fun i _ => wid (r : Int) - (intOf i).toNat)
  case atStart => exact ⟨0, Nat.zero_le _, rfl, HE⟩
  case round =>
    obtain ⟨j, hj, rfl, HE⟩ := hrel
    by_cases hjl : j < wid (r : Int)
    · have HW := Lib.hid (HSP.out.each j hjl)
      go_wp2_with fail
      refine (wide_any _ _ (HL.out.ext HE.out).t).mono ?_
      rintro e w3 ⟨rfl, hx⟩
      have HE := Lib.hid (HE.out.trans hx)
      clear hx
      go_wp2_with fail
      refine (owhere_any _ _ (HL.out.ext HE.out).t (by omega)).mono ?_
      rw [HW.out.1, HW.out.2.1, HW.out.2.2.1, HW.out.2.2.2]
      rintro e w4 ⟨rfl, hx⟩
      have HE := Lib.hid (HE.out.trans hx)
      clear hx
      go_wp2_with fail
      go_roundw
      case rel => exact ⟨j + 1, by omega, by go_num, HE⟩
      case measure => simp [intOf]; omega
    · go_wp2_with fail
      refine (wide_any _ _ (HL.out.ext HE.out).t).mono ?_
      rintro e w3 ⟨rfl, hx⟩
      have HE := Lib.hid (HE.out.trans hx)
      clear hx
      go_wp2_with fail
      refine (places_any _ _ (HL.out.ext HE.out).t).mono ?_
      rintro e w4 ⟨rfl, hx⟩
      have HE := Lib.hid (HE.out.trans hx)
      clear hx
      go_wp2_with fail
      refine (first_any _ _ _ (HL.out.ext HE.out).t).mono ?_
      rw [HP.out]
      rintro e w5 ⟨rfl, hx⟩
      have HE := Lib.hid (HE.out.trans hx)
      clear hx
      go_wp2_with fail
      refine (wide_any _ _ (HL.out.ext HE.out).t).mono ?_
      rintro e w6 ⟨rfl, hx⟩
      have HE := Lib.hid (HE.out.trans hx)
      clear hx
      go_wp2_with fail
      go_ret
      exact ⟨by simp, HE.out⟩

theorem tagWhere_law (s r p : Int) (w : World) (hs : (Lit.int .i64 s).wf = true) (_ : (Lit.int .i64 r).wf = true) (_ : (Lit.int .i64 p).wf = true) (hL : LaidA w) :
    Calls Tryd.prog 6 #[.int .i64 s, .int .i64 r, .int .i64 p] w fun e w' => e = .returned (.bool true) ∧ Below w.heap.size w w' := by
  show Calls Tryd.prog 6 #[.int .i64 s, .int .i64 r, .int .i64 p] w fun e w' => e = .returned (.bool true) ∧ Ext w w'
  have hsm := (bounds_i64 hs).2
  by_cases hp : p < 0
  · by_cases h0 : s < 0
    · exact tagWhere_N1 s r p w hL h0 hp
    by_cases h1 : s < 156
    · exact tagWhere_I1 s r p w hL (by omega) h1 hp
    · exact tagWhere_B1 s r p w hL (by omega) hsm hp
  by_cases hpl : (plc r : Int) ≤ p
  · by_cases h0 : s < 0
    · exact tagWhere_N2 s r p w hL h0 (by omega) hpl
    by_cases h1 : s < 156
    · exact tagWhere_I2 s r p w hL (by omega) h1 (by omega) hpl
    · exact tagWhere_B2 s r p w hL (by omega) hsm (by omega) hpl
  have hr := plc_some (r := r) (by omega)
  obtain ⟨r, rfl⟩ := Int.eq_ofNat_of_zero_le (show 0 ≤ r by omega)
  obtain ⟨p, rfl⟩ := Int.eq_ofNat_of_zero_le (show 0 ≤ p by omega)
  have hpn : p < plc (r : Int) := by omega
  have HSP := Lib.hid (spot (r := r) (p := p) (by omega) (by omega) hpn)
  by_cases hp0 : 0 < p
  · have HP := Lib.hid (first_pred hp0 hpn)
    have hpb : p ≤ 48 := by have := plc_le (r : Int); omega
    by_cases h0 : s < 0
    · exact tagWhere_N3 s r p _ w hL h0 HSP hp0 hpb HP
    by_cases h1 : s < 156
    · exact tagWhere_I3 s r p _ w hL (by omega) h1 HSP hp0 hpb HP
    · exact tagWhere_B3 s r p _ w hL (by omega) hsm HSP hp0 hpb HP
  obtain rfl : p = 0 := by omega
  rw [Nat.zero_mul, Nat.add_zero] at HSP
  have HSP := Lib.hid (spot0 HSP.out)
  by_cases hr1 : r = 1
  · subst hr1
    by_cases h0 : s < 0
    · exact tagWhere_N4 s 1 _ w hL h0 HSP rfl rfl
    by_cases h1 : s < 156
    · exact tagWhere_I4 s 1 _ w hL (by omega) h1 HSP rfl rfl
    · exact tagWhere_B4 s 1 _ w hL (by omega) hsm HSP rfl rfl
  · have hf := first_last (r := r) (by omega) (by omega)
    have hne : ((r : Int) == 1) = false := by simp; omega
    by_cases h0 : s < 0
    · exact tagWhere_N5 s r _ w hL h0 HSP (by omega) (by omega) hne (Lib.hid hf.1) hf.2.1 hf.2.2
    by_cases h1 : s < 156
    · exact tagWhere_I5 s r _ w hL (by omega) h1 HSP (by omega) (by omega) hne (Lib.hid hf.1) hf.2.1 hf.2.2
    · exact tagWhere_B5 s r _ w hL (by omega) hsm HSP (by omega) (by omega) hne (Lib.hid hf.1) hf.2.1 hf.2.2
end Go.Proofs.YtlfdagajfhikhaaDoor
