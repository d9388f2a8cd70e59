/-
  The contract of Heal.
-/
import Derived.Test.YtmpaocpgoihliaaGreatDoorP00
import Derived.Test.YtmpaocpgoihliaaGreatDoorP11
import Derived.Test.YtmpaocpgoihliaaGreatDoorP18
namespace Go.Proofs.YtmpaocpgoihliaaGreatDoor
set_option maxRecDepth 100000
section
open Go Go.RowKit
theorem repeats0 (r g : Int) (x y : List Nat) (A0 : Option Addr) (N0 : Nat) (A1 : Option Addr) (N1 : Nat) (w : World) (ha : atC r g x y = 0) (h0 : By w A0 N0 N0 (mbl x r g 0)) (h1 : By w A1 N1 N1 (mbl y r g 1)) :
 Calls Tryz.prog 157 #[.agg #[.int .u8 (stM y r g 1 : Nat), .int .i64 (mfl y r g 1 0 : Nat), .int .i64 (mfl y r g 1 1 : Nat), .int .i64 (mfl y r g 1 2 : Nat), .int .i64 (mfl y r g 1 3 : Nat), .int .i64 (mfl y r g 1 4 : Nat), .slice A1 N1 N1], .agg #[.int .u8 (stM x r g 0 : Nat), .int .i64 (mfl x r g 0 0 : Nat), .int .i64 (mfl x r g 0 1 : Nat), .int .i64 (mfl x r g 0 2 : Nat), .int .i64 (mfl x r g 0 3 : Nat), .int .i64 (mfl x r g 0 4 : Nat), .slice A0 N0 N0]] w fun e w' => e = .returned (.bool (sameC r g x y)) ∧ Ext w w' := by
 have h := repeats_of (stM y r g 1 : Nat) (mfl y r g 1 0 : Nat) (mfl y r g 1 1 : Nat) (mfl y r g 1 2 : Nat) (mfl y r g 1 3 : Nat) (mfl y r g 1 4 : Nat) (stM x r g 0 : Nat) (mfl x r g 0 0 : Nat) (mfl x r g 0 1 : Nat) (mfl x r g 0 2 : Nat) (mfl x r g 0 3 : Nat) (mfl x r g 0 4 : Nat) A1 A0 N1 N1 N0 N0 _ _ w h1 h0
 rw [show (1 : Int) = ((1 : Nat) : Int) from rfl, dec_cast, dec_cast] at h
 unfold sameC
 rw [if_pos ha]
 exact h
theorem repeats1 (r g : Int) (x y : List Nat) (A0 : Option Addr) (N0 : Nat) (A1 : Option Addr) (N1 : Nat) (w : World) (ha : atC r g x y = 1) (h0 : By w A0 N0 N0 (mbl x r g 0)) (h1 : By w A1 N1 N1 (mbl y r g 1)) :
 Calls Tryz.prog 157 #[.agg #[.int .u8 (stM x r g 0 : Nat), .int .i64 (mfl x r g 0 0 : Nat), .int .i64 (mfl x r g 0 1 : Nat), .int .i64 (mfl x r g 0 2 : Nat), .int .i64 (mfl x r g 0 3 : Nat), .int .i64 (mfl x r g 0 4 : Nat), .slice A0 N0 N0], .agg #[.int .u8 (stM y r g 1 : Nat), .int .i64 (mfl y r g 1 0 : Nat), .int .i64 (mfl y r g 1 1 : Nat), .int .i64 (mfl y r g 1 2 : Nat), .int .i64 (mfl y r g 1 3 : Nat), .int .i64 (mfl y r g 1 4 : Nat), .slice A1 N1 N1]] w fun e w' => e = .returned (.bool (sameC r g x y)) ∧ Ext w w' := by
 have h := repeats_of (stM x r g 0 : Nat) (mfl x r g 0 0 : Nat) (mfl x r g 0 1 : Nat) (mfl x r g 0 2 : Nat) (mfl x r g 0 3 : Nat) (mfl x r g 0 4 : Nat) (stM y r g 1 : Nat) (mfl y r g 1 0 : Nat) (mfl y r g 1 1 : Nat) (mfl y r g 1 2 : Nat) (mfl y r g 1 3 : Nat) (mfl y r g 1 4 : Nat) A0 A1 N0 N0 N1 N1 _ _ w h0 h1
 rw [show (1 : Int) = ((1 : Nat) : Int) from rfl, dec_cast, dec_cast] at h
 unfold sameC
 rw [if_neg (by rw [ha]; omega)]
 exact h
set_option maxHeartbeats 1600000 in
theorem Heal_of {w : World} {d : Nat} {F : Nat → Prop} {m : DM} (h : PDisk w d F m) (hL : LaidF w) (r g : Int) (hfew : m.waits.length + 1 ≤ 1000000) (hk : knownC m.size r g = 0) :
 Calls Tryz.prog 69 #[.pointer (some ⟨d, 0, none⟩), .int .i64 r, .int .i64 g] w fun e w' => e = .returned (.int .i64 (m.heal r g).1) ∧ Step d F w (m.heal r g).2 w' := by
 have hc := cknown_of (Sized.of h) hL.a.t r g
 rw [hk] at hc
 have HC := Lib.hid hc
 have H := Lib.hid h
 have HL := Lib.hid hL
 have hg := (knownC_ok hk).2.1
 obtain ⟨R, hR⟩ : ∃ R, m.heal r g = R := ⟨_, rfl⟩
 rw [hR]
 by_cases hE : m.loadE r g = 0
 ·rcases atC_cases r g (m.cb g 0) (m.cb g 1) with ha | ha | ha
  ·have hl := fun w' (hx : Ext w w') => load_at (h.ext hx) (hL.ext hx) r g (by omega) (loadE_up hE) _ _ rfl rfl 0 (by omega) (Lib.hid ha)
   obtain ⟨q0, q1, q2, q3, q4⟩ := mine_copy (read_sect h.ok _) (atC_zero ha)
   have hsl := seal_one (may_other (q := 1) hg (by omega) q3) q4
   unfold DM.heal at hR
   rw [if_neg (by rw [hE]; simp), ha] at hR
   have hcf : ∀ k, cellF r g (m.cb g 0) (m.cb g 1) k = mfl (m.cb g 0) r g 0 k := fun k => by unfold cellF; rw [ha]; simp
   have hcb : cellB r g (m.cb g 0) (m.cb g 1) = mbl (m.cb g 0) r g 0 := by unfold cellB; rw [ha]; simp
   rw [hcf, hcf, hcb] at hR
   have hput : ∀ (a b c : Int), a = r → b = g → ∀ w1, Ext w w1 → ∀ A1 N1, By w1 A1 N1 N1 (mbl (m.cb g 0) r g 0) → Calls Tryz.prog 158 #[.pointer (some ⟨d, 0, none⟩), .agg #[.int .i64 a, .int .i64 b, .int .i64 c, .int .i64 (mfl (m.cb g 0) r g 0 3 : Nat), .int .i64 (mfl (m.cb g 0) r g 0 4 : Nat)], .int .i64 1, .slice A1 N1 N1] w1 fun e w' =>
    e = .returned (.int .i64 (m.putC (firstS g 1) (sealL r g 1 (mfl (m.cb g 0) r g 0 3 : Nat) (mfl (m.cb g 0) r g 0 4 : Nat) (mbl (m.cb g 0) r g 0) 1)).1) ∧ Step d F w1 (m.putC (firstS g 1) (sealL r g 1 (mfl (m.cb g 0) r g 0 3 : Nat) (mfl (m.cb g 0) r g 0 4 : Nat) (mbl (m.cb g 0) r g 0) 1)).2 w' := fun a b c ea eb w1 hx A1 N1 hb => by
    rw [ea, eb]
    exact cput_of (h.ext hx) (hL.ext hx) r g c _ _ 1 A1 N1 N1 _ hb (by have := hb.len; rw [← this]; exact hsl) hfew
   rw [show (m.read (firstS g 0)).1 = m.cb g 0 from rfl] at q0 q1 q2
   have HQ := Lib.hid (And.intro q0 (And.intro q1 q2))
   have hrp := fun w1 A0 N0 A1 N1 h0 h1 => repeats0 r g (m.cb g 0) (m.cb g 1) A0 N0 A1 N1 w1 ha h0 h1
   obtain ⟨B, hB⟩ : ∃ B, sameC r g (m.cb g 0) (m.cb g 1) = B := ⟨_, rfl⟩
   rw [hB] at hR hrp
   obtain ⟨x, hx⟩ : ∃ x, m.cb g 0 = x := ⟨_, rfl⟩
   obtain ⟨y, hy⟩ : ∃ y, m.cb g 1 = y := ⟨_, rfl⟩
   rw [hx] at hR hput HQ
   rw [hx, hy] at hl hrp
   have HR := Lib.hid hR
   have HLD := Lib.hid hl
   have HPUT := Lib.hid hput
   have HRP := Lib.hid hrp
   clear h hL hc hk hl hE ha hfew q0 q1 q2 q3 q4 hsl hcf hcb hput hrp hB hx hy hR hg
   go_enter Tryz.func69, Tryz.ntmps69
   go_wp2_with fail
   refine HC.out.mono ?_
   rintro e w1 ⟨rfl, hx⟩
   have HX := Lib.hid hx
   clear hx
   go_wp2_with fail
   refine (HLD.out _ HX.out).mono ?_
   rintro e w2 ⟨A0, N0, A1, N1, rfl, h0, h1, hx⟩
   have HX := Lib.hid (HX.out.trans hx)
   have HX2 := Lib.hid HX.out
   have H0 := Lib.hid h0.1
   have H1 := Lib.hid h1.1
   clear h0 h1 hx
   have HPR := Lib.hid (heap_alloc_new w2 (.cells #[.int .u8 (stM x r g 0 : Nat), .int .i64 (mfl x r g 0 0 : Nat), .int .i64 (mfl x r g 0 1 : Nat), .int .i64 (mfl x r g 0 2 : Nat), .int .i64 (mfl x r g 0 3 : Nat), .int .i64 (mfl x r g 0 4 : Nat), .slice A0 N0 N0, .int .u8 (stM y r g 1 : Nat), .int .i64 (mfl y r g 1 0 : Nat), .int .i64 (mfl y r g 1 1 : Nat), .int .i64 (mfl y r g 1 2 : Nat), .int .i64 (mfl y r g 1 3 : Nat), .int .i64 (mfl y r g 1 4 : Nat), .slice A1 N1 N1] 220))
   have HPX := Lib.hid ((Ext.refl w2).alloc (.cells #[.int .u8 (stM x r g 0 : Nat), .int .i64 (mfl x r g 0 0 : Nat), .int .i64 (mfl x r g 0 1 : Nat), .int .i64 (mfl x r g 0 2 : Nat), .int .i64 (mfl x r g 0 3 : Nat), .int .i64 (mfl x r g 0 4 : Nat), .slice A0 N0 N0, .int .u8 (stM y r g 1 : Nat), .int .i64 (mfl y r g 1 0 : Nat), .int .i64 (mfl y r g 1 1 : Nat), .int .i64 (mfl y r g 1 2 : Nat), .int .i64 (mfl y r g 1 3 : Nat), .int .i64 (mfl y r g 1 4 : Nat), .slice A1 N1 N1] 220))
   have hk1 : Hid (Ext (w2.alloc (.cells #[.int .u8 (stM x r g 0 : Nat), .int .i64 (mfl x r g 0 0 : Nat), .int .i64 (mfl x r g 0 1 : Nat), .int .i64 (mfl x r g 0 2 : Nat), .int .i64 (mfl x r g 0 3 : Nat), .int .i64 (mfl x r g 0 4 : Nat), .slice A0 N0 N0, .int .u8 (stM y r g 1 : Nat), .int .i64 (mfl y r g 1 0 : Nat), .int .i64 (mfl y r g 1 1 : Nat), .int .i64 (mfl y r g 1 2 : Nat), .int .i64 (mfl y r g 1 3 : Nat), .int .i64 (mfl y r g 1 4 : Nat), .slice A1 N1 N1] 220)).drew (w2.alloc (.cells #[.int .u8 (stM x r g 0 : Nat), .int .i64 (mfl x r g 0 0 : Nat), .int .i64 (mfl x r g 0 1 : Nat), .int .i64 (mfl x r g 0 2 : Nat), .int .i64 (mfl x r g 0 3 : Nat), .int .i64 (mfl x r g 0 4 : Nat), .slice A0 N0 N0, .int .u8 (stM y r g 1 : Nat), .int .i64 (mfl y r g 1 0 : Nat), .int .i64 (mfl y r g 1 1 : Nat), .int .i64 (mfl y r g 1 2 : Nat), .int .i64 (mfl y r g 1 3 : Nat), .int .i64 (mfl y r g 1 4 : Nat), .slice A1 N1 N1] 220)).drew) := Lib.hid (Ext.refl _)
   go_wp2_with fail
   go_region_held3 (fun w' => w'.cell? ⟨w2.heap.size, 0, none⟩ = some (.int .u8 (stM x r g 0 : Nat)) ∧ w'.cell? ⟨w2.heap.size, 1, none⟩ = some (.int .i64 (mfl x r g 0 0 : Nat)) ∧ w'.cell? ⟨w2.heap.size, 2, none⟩ = some (.int .i64 (mfl x r g 0 1 : Nat)) ∧ w'.cell? ⟨w2.heap.size, 3, none⟩ = some (.int .i64 (mfl x r g 0 2 : Nat)) ∧ w'.cell? ⟨w2.heap.size, 4, none⟩ = some (.int .i64 (mfl x r g 0 3 : Nat)) ∧ w'.cell? ⟨w2.heap.size, 5, none⟩ = some (.int .i64 (mfl x r g 0 4 : Nat)) ∧ w'.cell? ⟨w2.heap.size, 6, none⟩ = some (.slice A0 N0 N0) ∧ w'.cell? ⟨w2.heap.size, 7, none⟩ = some (.int .u8 (stM y r g 1 : Nat)) ∧ w'.cell? ⟨w2.heap.size, 8, none⟩ = some (.int .i64 (mfl y r g 1 0 : Nat)) ∧ w'.cell? ⟨w2.heap.size, 9, none⟩ = some (.int .i64 (mfl y r g 1 1 : Nat)) ∧ w'.cell? ⟨w2.heap.size, 10, none⟩ = some (.int .i64 (mfl y r g 1 2 : Nat)) ∧ w'.cell? ⟨w2.heap.size, 11, none⟩ = some (.int .i64 (mfl y r g 1 3 : Nat)) ∧ w'.cell? ⟨w2.heap.size, 12, none⟩ = some (.int .i64 (mfl y r g 1 4 : Nat)) ∧ w'.cell? ⟨w2.heap.size, 13, none⟩ = some (.slice A1 N1 N1))
    (exact cells14 (row_keep (by assumption) HPR))
    (first
     | (go_at_call 156; ((with_reducible refine (other0 _).mono ?_); rintro e w3 ⟨rfl, rfl⟩))
     | (go_at_call 157; ((with_reducible refine (HRP.out _ A0 N0 A1 N1 (H0.out.ext HPX.out.drew) (H1.out.ext HPX.out.drew)).mono ?_); rintro e w4 ⟨rfl, hx⟩; have HK4 := Lib.hid hx; clear hx)))
   have HX := Lib.hid ((HX.out.trans HPX.out.drew).trans HK4.out)
   cases B with
   | true =>
    have HRZ : Hid (R = (0, m)) := Lib.hid (by rw [← HR.out]; simp)
    go_wp2_with fail
    go_ret
    rw [HRZ.out]
    exact ⟨rfl, Step.of_ext H.out HX.out⟩
   | false =>
    have HRZ : Hid (R = m.putC (firstS g 1) (sealL r g 1 (mfl x r g 0 3 : Nat) (mfl x r g 0 4 : Nat) (mbl x r g 0) 1)) := Lib.hid (by rw [← HR.out]; simp [otherP, sealC])
    have HB := Lib.hid ((H0.out.ext HPX.out.drew).ext HK4.out)
    have HP4 := Lib.hid (row_keep HK4 HPR)
    have HNF : Hid (¬ F w2.heap.size) := Lib.hid fun hf => by have h1 := H.out.lt _ hf; have h2 := HX2.out.size; omega
    have hk5 : Hid (Ext w4.drew w4.drew) := Lib.hid (Ext.refl _)
    have HX5 : Hid (Ext w w4.drew) := Lib.hid HX.out.drew
    have HB5 := Lib.hid (HB.out.ext (Ext.refl w4).drew)
    have HPP := Lib.hid (HPUT.out _ _ (mfl x r g 0 2 : Nat) HQ.out.1 HQ.out.2.1 _ HX5.out A0 N0 HB5.out)
    clear hk1
    go_wp2_with fail
    go_region_held3 (fun w' => w'.cell? ⟨w2.heap.size, 0, none⟩ = some (.int .u8 (stM x r g 0 : Nat)) ∧ w'.cell? ⟨w2.heap.size, 1, none⟩ = some (.int .i64 (mfl x r g 0 0 : Nat)) ∧ w'.cell? ⟨w2.heap.size, 2, none⟩ = some (.int .i64 (mfl x r g 0 1 : Nat)) ∧ w'.cell? ⟨w2.heap.size, 3, none⟩ = some (.int .i64 (mfl x r g 0 2 : Nat)) ∧ w'.cell? ⟨w2.heap.size, 4, none⟩ = some (.int .i64 (mfl x r g 0 3 : Nat)) ∧ w'.cell? ⟨w2.heap.size, 5, none⟩ = some (.int .i64 (mfl x r g 0 4 : Nat)) ∧ w'.cell? ⟨w2.heap.size, 6, none⟩ = some (.slice A0 N0 N0) ∧ w'.cell? ⟨w2.heap.size, 7, none⟩ = some (.int .u8 (stM y r g 1 : Nat)) ∧ w'.cell? ⟨w2.heap.size, 8, none⟩ = some (.int .i64 (mfl y r g 1 0 : Nat)) ∧ w'.cell? ⟨w2.heap.size, 9, none⟩ = some (.int .i64 (mfl y r g 1 1 : Nat)) ∧ w'.cell? ⟨w2.heap.size, 10, none⟩ = some (.int .i64 (mfl y r g 1 2 : Nat)) ∧ w'.cell? ⟨w2.heap.size, 11, none⟩ = some (.int .i64 (mfl y r g 1 3 : Nat)) ∧ w'.cell? ⟨w2.heap.size, 12, none⟩ = some (.int .i64 (mfl y r g 1 4 : Nat)) ∧ w'.cell? ⟨w2.heap.size, 13, none⟩ = some (.slice A1 N1 N1))
     (first | exact cells14 (row_keep (by assumption) HP4) | exact cells14 (heap_mod HP4.out (Hid.out (by assumption)) HNF.out))
     (first
      | (go_at_call 156; ((with_reducible refine (other0 _).mono ?_); rintro e w3 ⟨rfl, rfl⟩))
      | (go_at_call 158; ((with_reducible refine HPP.out.mono ?_); rintro e w6 ⟨rfl, hs⟩; have HS0 := Lib.hid hs; have HM6 : Hid (Mod F w4 w6) := Lib.hid ((Mod.of_ext (Ext.refl w4).drew).trans hs.2 fun _ hi => .inl hi); clear hs)))
    have HS := Lib.hid (Step.pre HX5.out HS0.out)
    go_wp2_with fail
    go_ret
    rw [HRZ.out]
    exact ⟨rfl, HS.out⟩
  ·have hl := fun w' (hx : Ext w w') => load_at (h.ext hx) (hL.ext hx) r g (by omega) (loadE_up hE) _ _ rfl rfl 1 (by omega) (Lib.hid ha)
   obtain ⟨q0, q1, q2, q3, q4⟩ := mine_copy (read_sect h.ok _) (atC_one ha)
   have hsl := seal_one (may_other (q := 0) hg (by omega) q3) q4
   unfold DM.heal at hR
   rw [if_neg (by rw [hE]; simp), ha] at hR
   have hcf : ∀ k, cellF r g (m.cb g 0) (m.cb g 1) k = mfl (m.cb g 1) r g 1 k := fun k => by unfold cellF; rw [ha]; simp
   have hcb : cellB r g (m.cb g 0) (m.cb g 1) = mbl (m.cb g 1) r g 1 := by unfold cellB; rw [ha]; simp
   rw [hcf, hcf, hcb] at hR
   have hput : ∀ (a b c : Int), a = r → b = g → ∀ w1, Ext w w1 → ∀ A1 N1, By w1 A1 N1 N1 (mbl (m.cb g 1) r g 1) → Calls Tryz.prog 158 #[.pointer (some ⟨d, 0, none⟩), .agg #[.int .i64 a, .int .i64 b, .int .i64 c, .int .i64 (mfl (m.cb g 1) r g 1 3 : Nat), .int .i64 (mfl (m.cb g 1) r g 1 4 : Nat)], .int .i64 0, .slice A1 N1 N1] w1 fun e w' =>
    e = .returned (.int .i64 (m.putC (firstS g 0) (sealL r g 0 (mfl (m.cb g 1) r g 1 3 : Nat) (mfl (m.cb g 1) r g 1 4 : Nat) (mbl (m.cb g 1) r g 1) 1)).1) ∧ Step d F w1 (m.putC (firstS g 0) (sealL r g 0 (mfl (m.cb g 1) r g 1 3 : Nat) (mfl (m.cb g 1) r g 1 4 : Nat) (mbl (m.cb g 1) r g 1) 1)).2 w' := fun a b c ea eb w1 hx A1 N1 hb => by
    rw [ea, eb]
    exact cput_of (h.ext hx) (hL.ext hx) r g c _ _ 0 A1 N1 N1 _ hb (by have := hb.len; rw [← this]; exact hsl) hfew
   rw [show (m.read (firstS g 1)).1 = m.cb g 1 from rfl] at q0 q1 q2
   have HQ := Lib.hid (And.intro q0 (And.intro q1 q2))
   have hrp := fun w1 A0 N0 A1 N1 h0 h1 => repeats1 r g (m.cb g 0) (m.cb g 1) A0 N0 A1 N1 w1 ha h0 h1
   obtain ⟨B, hB⟩ : ∃ B, sameC r g (m.cb g 0) (m.cb g 1) = B := ⟨_, rfl⟩
   rw [hB] at hR hrp
   obtain ⟨x, hx⟩ : ∃ x, m.cb g 0 = x := ⟨_, rfl⟩
   obtain ⟨y, hy⟩ : ∃ y, m.cb g 1 = y := ⟨_, rfl⟩
   rw [hy] at hR hput HQ
   rw [hx, hy] at hl hrp
   have HR := Lib.hid hR
   have HLD := Lib.hid hl
   have HPUT := Lib.hid hput
   have HRP := Lib.hid hrp
   clear h hL hc hk hl hE ha hfew q0 q1 q2 q3 q4 hsl hcf hcb hput hrp hB hx hy hR hg
   go_enter Tryz.func69, Tryz.ntmps69
   go_wp2_with fail
   refine HC.out.mono ?_
   rintro e w1 ⟨rfl, hx⟩
   have HX := Lib.hid hx
   clear hx
   go_wp2_with fail
   refine (HLD.out _ HX.out).mono ?_
   rintro e w2 ⟨A0, N0, A1, N1, rfl, h0, h1, hx⟩
   have HX := Lib.hid (HX.out.trans hx)
   have HX2 := Lib.hid HX.out
   have H0 := Lib.hid h0.1
   have H1 := Lib.hid h1.1
   clear h0 h1 hx
   have HPR := Lib.hid (heap_alloc_new w2 (.cells #[.int .u8 (stM x r g 0 : Nat), .int .i64 (mfl x r g 0 0 : Nat), .int .i64 (mfl x r g 0 1 : Nat), .int .i64 (mfl x r g 0 2 : Nat), .int .i64 (mfl x r g 0 3 : Nat), .int .i64 (mfl x r g 0 4 : Nat), .slice A0 N0 N0, .int .u8 (stM y r g 1 : Nat), .int .i64 (mfl y r g 1 0 : Nat), .int .i64 (mfl y r g 1 1 : Nat), .int .i64 (mfl y r g 1 2 : Nat), .int .i64 (mfl y r g 1 3 : Nat), .int .i64 (mfl y r g 1 4 : Nat), .slice A1 N1 N1] 220))
   have HPX := Lib.hid ((Ext.refl w2).alloc (.cells #[.int .u8 (stM x r g 0 : Nat), .int .i64 (mfl x r g 0 0 : Nat), .int .i64 (mfl x r g 0 1 : Nat), .int .i64 (mfl x r g 0 2 : Nat), .int .i64 (mfl x r g 0 3 : Nat), .int .i64 (mfl x r g 0 4 : Nat), .slice A0 N0 N0, .int .u8 (stM y r g 1 : Nat), .int .i64 (mfl y r g 1 0 : Nat), .int .i64 (mfl y r g 1 1 : Nat), .int .i64 (mfl y r g 1 2 : Nat), .int .i64 (mfl y r g 1 3 : Nat), .int .i64 (mfl y r g 1 4 : Nat), .slice A1 N1 N1] 220))
   have hk1 : Hid (Ext (w2.alloc (.cells #[.int .u8 (stM x r g 0 : Nat), .int .i64 (mfl x r g 0 0 : Nat), .int .i64 (mfl x r g 0 1 : Nat), .int .i64 (mfl x r g 0 2 : Nat), .int .i64 (mfl x r g 0 3 : Nat), .int .i64 (mfl x r g 0 4 : Nat), .slice A0 N0 N0, .int .u8 (stM y r g 1 : Nat), .int .i64 (mfl y r g 1 0 : Nat), .int .i64 (mfl y r g 1 1 : Nat), .int .i64 (mfl y r g 1 2 : Nat), .int .i64 (mfl y r g 1 3 : Nat), .int .i64 (mfl y r g 1 4 : Nat), .slice A1 N1 N1] 220)).drew (w2.alloc (.cells #[.int .u8 (stM x r g 0 : Nat), .int .i64 (mfl x r g 0 0 : Nat), .int .i64 (mfl x r g 0 1 : Nat), .int .i64 (mfl x r g 0 2 : Nat), .int .i64 (mfl x r g 0 3 : Nat), .int .i64 (mfl x r g 0 4 : Nat), .slice A0 N0 N0, .int .u8 (stM y r g 1 : Nat), .int .i64 (mfl y r g 1 0 : Nat), .int .i64 (mfl y r g 1 1 : Nat), .int .i64 (mfl y r g 1 2 : Nat), .int .i64 (mfl y r g 1 3 : Nat), .int .i64 (mfl y r g 1 4 : Nat), .slice A1 N1 N1] 220)).drew) := Lib.hid (Ext.refl _)
   go_wp2_with fail
   go_region_held3 (fun w' => w'.cell? ⟨w2.heap.size, 0, none⟩ = some (.int .u8 (stM x r g 0 : Nat)) ∧ w'.cell? ⟨w2.heap.size, 1, none⟩ = some (.int .i64 (mfl x r g 0 0 : Nat)) ∧ w'.cell? ⟨w2.heap.size, 2, none⟩ = some (.int .i64 (mfl x r g 0 1 : Nat)) ∧ w'.cell? ⟨w2.heap.size, 3, none⟩ = some (.int .i64 (mfl x r g 0 2 : Nat)) ∧ w'.cell? ⟨w2.heap.size, 4, none⟩ = some (.int .i64 (mfl x r g 0 3 : Nat)) ∧ w'.cell? ⟨w2.heap.size, 5, none⟩ = some (.int .i64 (mfl x r g 0 4 : Nat)) ∧ w'.cell? ⟨w2.heap.size, 6, none⟩ = some (.slice A0 N0 N0) ∧ w'.cell? ⟨w2.heap.size, 7, none⟩ = some (.int .u8 (stM y r g 1 : Nat)) ∧ w'.cell? ⟨w2.heap.size, 8, none⟩ = some (.int .i64 (mfl y r g 1 0 : Nat)) ∧ w'.cell? ⟨w2.heap.size, 9, none⟩ = some (.int .i64 (mfl y r g 1 1 : Nat)) ∧ w'.cell? ⟨w2.heap.size, 10, none⟩ = some (.int .i64 (mfl y r g 1 2 : Nat)) ∧ w'.cell? ⟨w2.heap.size, 11, none⟩ = some (.int .i64 (mfl y r g 1 3 : Nat)) ∧ w'.cell? ⟨w2.heap.size, 12, none⟩ = some (.int .i64 (mfl y r g 1 4 : Nat)) ∧ w'.cell? ⟨w2.heap.size, 13, none⟩ = some (.slice A1 N1 N1))
    (exact cells14 (row_keep (by assumption) HPR))
    (first
     | (go_at_call 156; ((with_reducible refine (other1 _).mono ?_); rintro e w3 ⟨rfl, rfl⟩))
     | (go_at_call 157; ((with_reducible refine (HRP.out _ A0 N0 A1 N1 (H0.out.ext HPX.out.drew) (H1.out.ext HPX.out.drew)).mono ?_); rintro e w4 ⟨rfl, hx⟩; have HK4 := Lib.hid hx; clear hx)))
   have HX := Lib.hid ((HX.out.trans HPX.out.drew).trans HK4.out)
   cases B with
   | true =>
    have HRZ : Hid (R = (0, m)) := Lib.hid (by rw [← HR.out]; simp)
    go_wp2_with fail
    go_ret
    rw [HRZ.out]
    exact ⟨rfl, Step.of_ext H.out HX.out⟩
   | false =>
    have HRZ : Hid (R = m.putC (firstS g 0) (sealL r g 0 (mfl y r g 1 3 : Nat) (mfl y r g 1 4 : Nat) (mbl y r g 1) 1)) := Lib.hid (by rw [← HR.out]; simp [otherP, sealC])
    have HB := Lib.hid ((H1.out.ext HPX.out.drew).ext HK4.out)
    have HP4 := Lib.hid (row_keep HK4 HPR)
    have HNF : Hid (¬ F w2.heap.size) := Lib.hid fun hf => by have h1 := H.out.lt _ hf; have h2 := HX2.out.size; omega
    have hk5 : Hid (Ext w4.drew w4.drew) := Lib.hid (Ext.refl _)
    have HX5 : Hid (Ext w w4.drew) := Lib.hid HX.out.drew
    have HB5 := Lib.hid (HB.out.ext (Ext.refl w4).drew)
    have HPP := Lib.hid (HPUT.out _ _ (mfl y r g 1 2 : Nat) HQ.out.1 HQ.out.2.1 _ HX5.out A1 N1 HB5.out)
    clear hk1
    go_wp2_with fail
    go_region_held3 (fun w' => w'.cell? ⟨w2.heap.size, 0, none⟩ = some (.int .u8 (stM x r g 0 : Nat)) ∧ w'.cell? ⟨w2.heap.size, 1, none⟩ = some (.int .i64 (mfl x r g 0 0 : Nat)) ∧ w'.cell? ⟨w2.heap.size, 2, none⟩ = some (.int .i64 (mfl x r g 0 1 : Nat)) ∧ w'.cell? ⟨w2.heap.size, 3, none⟩ = some (.int .i64 (mfl x r g 0 2 : Nat)) ∧ w'.cell? ⟨w2.heap.size, 4, none⟩ = some (.int .i64 (mfl x r g 0 3 : Nat)) ∧ w'.cell? ⟨w2.heap.size, 5, none⟩ = some (.int .i64 (mfl x r g 0 4 : Nat)) ∧ w'.cell? ⟨w2.heap.size, 6, none⟩ = some (.slice A0 N0 N0) ∧ w'.cell? ⟨w2.heap.size, 7, none⟩ = some (.int .u8 (stM y r g 1 : Nat)) ∧ w'.cell? ⟨w2.heap.size, 8, none⟩ = some (.int .i64 (mfl y r g 1 0 : Nat)) ∧ w'.cell? ⟨w2.heap.size, 9, none⟩ = some (.int .i64 (mfl y r g 1 1 : Nat)) ∧ w'.cell? ⟨w2.heap.size, 10, none⟩ = some (.int .i64 (mfl y r g 1 2 : Nat)) ∧ w'.cell? ⟨w2.heap.size, 11, none⟩ = some (.int .i64 (mfl y r g 1 3 : Nat)) ∧ w'.cell? ⟨w2.heap.size, 12, none⟩ = some (.int .i64 (mfl y r g 1 4 : Nat)) ∧ w'.cell? ⟨w2.heap.size, 13, none⟩ = some (.slice A1 N1 N1))
     (first | exact cells14 (row_keep (by assumption) HP4) | exact cells14 (heap_mod HP4.out (Hid.out (by assumption)) HNF.out))
     (first
      | (go_at_call 156; ((with_reducible refine (other1 _).mono ?_); rintro e w3 ⟨rfl, rfl⟩))
      | (go_at_call 158; ((with_reducible refine HPP.out.mono ?_); rintro e w6 ⟨rfl, hs⟩; have HS0 := Lib.hid hs; have HM6 : Hid (Mod F w4 w6) := Lib.hid ((Mod.of_ext (Ext.refl w4).drew).trans hs.2 fun _ hi => .inl hi); clear hs)))
    have HS := Lib.hid (Step.pre HX5.out HS0.out)
    go_wp2_with fail
    go_ret
    rw [HRZ.out]
    exact ⟨rfl, HS.out⟩
  ·have hl := fun w' (hx : Ext w w') => load_none (h.ext hx) (hL.ext hx) r g (by omega) hE ha
   have HR : Hid (R = (0, m)) := Lib.hid (by rw [← hR]; unfold DM.heal; rw [if_neg (by rw [hE]; simp), if_pos (.inl ha)])
   have HLD := Lib.hid hl
   clear h hL hc hk hl hE ha hfew hg hR
   go_enter Tryz.func69, Tryz.ntmps69
   go_wp2_with fail
   refine HC.out.mono ?_
   rintro e w1 ⟨rfl, hx⟩
   have HX := Lib.hid hx
   clear hx
   go_wp2_with fail
   refine (HLD.out _ HX.out).mono ?_
   rintro e w2 ⟨⟨_, _, _, _, _, _, _, _, _, _, _, _, _, _, _, _, _, _, rfl⟩, hx⟩
   have HX := Lib.hid (HX.out.trans hx)
   clear hx
   go_wp2_with fail
   go_region
   go_wp2_with fail
   go_ret
   rw [HR.out]
   exact ⟨rfl, Step.of_ext H.out (by repeat (first | exact HX.out | refine Ext.drew ?_ | refine Ext.alloc ?_ _))⟩
 ·have hl := fun w' (hx : Ext w w') => load_fail (h.ext hx) (hL.ext hx) r g (by omega) _ rfl hE
  have HR : Hid (R = (m.loadE r g, m)) := Lib.hid (by rw [← hR]; unfold DM.heal; rw [if_pos hE])
  have hne : (m.loadE r g != 0) = true := by simpa using hE
  generalize m.loadE r g = E at hl hne HR
  have HLD := Lib.hid hl
  clear h hL hc hk hl hE hfew hg hR
  go_enter Tryz.func69, Tryz.ntmps69
  go_wp2_with fail
  refine HC.out.mono ?_
  rintro e w1 ⟨rfl, hx⟩
  have HX := Lib.hid hx
  clear hx
  go_wp2_with fail
  refine (HLD.out _ HX.out).mono ?_
  rintro e w2 ⟨⟨_, _, _, _, _, _, _, _, _, _, _, _, _, _, _, _, _, _, rfl⟩, hx⟩
  have HX := Lib.hid (HX.out.trans hx)
  clear hx
  go_wp2_with fail
  go_region
  go_wp2_with fail
  go_ret
  rw [HR.out]
  exact ⟨rfl, Step.of_ext H.out (by repeat (first | exact HX.out | refine Ext.drew ?_ | refine Ext.alloc ?_ _))⟩
end
end Go.Proofs.YtmpaocpgoihliaaGreatDoor
