/-
  The contract of load in three cases, and of Load.
-/
import Derived.Test.YtmbmpabjclkhlaaGreatDoorN00
import Derived.Test.YtmbmpabjclkhlaaGreatDoorN15
namespace Go.Proofs.YtmbmpabjclkhlaaGreatDoor
set_option maxRecDepth 100000
section
open Go Go.RowKit
theorem load_fail {w : World} {d : Nat} {F : Nat → Prop} {m : DM} (h : PDisk w d F m) (hL : LaidF w) (r g : Int) (hfew : m.waits.length ≤ 1000000) (E : Int) (hE : m.loadE r g = E) (h0 : E ≠ 0) : Calls Tryz.prog 182 #[.pointer (some ⟨d, 0, none⟩), .int .i64 r, .int .i64 g] w fun e w' => (∃ (s0 a0 b0 c0 d0 e0 s1 a1 b1 c1 d1 e1 : Int) (A0 A1 : Option Addr) (n0 m0 n1 m1 : Nat), e = .returned (.tuple #[.agg #[.int .u8 s0, .int .i64 a0, .int .i64 b0, .int .i64 c0, .int .i64 d0, .int .i64 e0, .slice A0 n0 m0, .int .u8 s1, .int .i64 a1, .int .i64 b1, .int .i64 c1, .int .i64 d1, .int .i64 e1, .slice A1 n1 m1], .int .i64 (-1), .int .i64 E])) ∧ Ext w w' := by
  unfold DM.loadE at hE
  split at hE
  · rename_i hu
    subst hE
    exact load_down h r g hu
  · rename_i hu
    have hu : m.up = true := by simpa using hu
    unfold cellE at hE
    split at hE
    · rename_i hc
      subst hE
      exact load_bad h hL r g hfew hu _ _ rfl rfl (Lib.hid hc.1) (Lib.hid hc.2)
    · exact absurd hE.symm h0
theorem load_none {w : World} {d : Nat} {F : Nat → Prop} {m : DM} (h : PDisk w d F m) (hL : LaidF w) (r g : Int) (hfew : m.waits.length ≤ 1000000) (hE : m.loadE r g = 0) (ha : atC r g (m.cb g 0) (m.cb g 1) = -1) : Calls Tryz.prog 182 #[.pointer (some ⟨d, 0, none⟩), .int .i64 r, .int .i64 g] w fun e w' => (∃ (s0 a0 b0 c0 d0 e0 s1 a1 b1 c1 d1 e1 : Int) (A0 A1 : Option Addr) (n0 m0 n1 m1 : Nat), e = .returned (.tuple #[.agg #[.int .u8 s0, .int .i64 a0, .int .i64 b0, .int .i64 c0, .int .i64 d0, .int .i64 e0, .slice A0 n0 m0, .int .u8 s1, .int .i64 a1, .int .i64 b1, .int .i64 c1, .int .i64 d1, .int .i64 e1, .slice A1 n1 m1], .int .i64 (-1), .int .i64 0])) ∧ Ext w w' := by
  unfold DM.loadE at hE
  split at hE
  · cases hE
  · rename_i hu
    have hu : m.up = true := by simpa using hu
    unfold cellE at hE
    split at hE
    · cases hE
    · rename_i hc
      exact load_no h hL r g hfew hu _ _ rfl rfl (Lib.hid ha) _ (fun h => hc ⟨ha, h⟩) (Lib.hid rfl)
theorem loadE_up {m : DM} {r g : Int} (hE : m.loadE r g = 0) : m.up = true := by
  unfold DM.loadE at hE
  split at hE
  · cases hE
  · rename_i hu; simpa using hu
theorem Load_unknown {w : World} {p : Option Addr} {sz : Nat} (hS : Sized w p sz) (hL : LaidT w) (r g : Int) (hk : knownC sz r g ≠ 0) :
    Calls Tryz.prog 179 #[.pointer p, .int .i64 r, .int .i64 g] w fun e w' => e = .returned (.tuple #[.int .i64 0, .slice none 0 0, .int .i64 (knownC sz r g)]) ∧ Ext w w' := by
  have hc := cknown_of hS hL r g
  obtain ⟨E, hE⟩ : ∃ E, knownC sz r g = E := ⟨_, rfl⟩
  rw [hE] at hc hk ⊢
  have HC := Lib.hid hc
  have hne : (E != 0) = true := by simpa using hk
  clear hS hL hc hE hk
  go_enter Tryz.func179, Tryz.ntmps179
  go_wp2_with fail
  refine HC.out.mono ?_
  rintro e w1 ⟨rfl, hx⟩
  have HX := Lib.hid hx
  clear hx
  go_wp2_with fail
  go_ret3
  exact ⟨rfl, HX.out⟩
set_option maxHeartbeats 800000 in
theorem Load_own {w : World} {d : Nat} {F : Nat → Prop} {m : DM} (h : PDisk w d F m) (hL : LaidF w) (r g : Int) (hfew : m.waits.length ≤ 1000000) (hk : knownC m.size r g = 0) : Calls Tryz.prog 179 #[.pointer (some ⟨d, 0, none⟩), .int .i64 r, .int .i64 g] w fun e w' => ∃ A N, e = .returned (.tuple #[.int .i64 (m.loadV r g : Nat), .slice A N N, .int .i64 (m.loadE r g)]) ∧ By w' A N N (m.loadB r g) ∧ (∀ g o, A = some ⟨g, o, none⟩ → 0 < N → w.heap.size ≤ g) ∧ Ext w w' := by
  have hc := cknown_of (Sized.of h) hL.a.t r g
  rw [hk] at hc
  have HC := Lib.hid hc
  by_cases hE : m.loadE r g = 0
  · rcases atC_cases r g (m.cb g 0) (m.cb g 1) with ha | ha | ha
    · have hl := fun w' (hx : Ext w w') => load_at (h.ext hx) (hL.ext hx) r g hfew (loadE_up hE) _ _ rfl rfl 0 (by omega) (Lib.hid ha)
      have HV : Hid (m.loadV r g = mfl (m.cb g 0) r g 0 3) := Lib.hid (by unfold DM.loadV cellF; rw [if_pos hE, ha]; simp)
      have HB : Hid (m.loadB r g = mbl (m.cb g 0) r g 0) := Lib.hid (by unfold DM.loadB cellB; rw [if_pos hE, ha]; simp)
      have HEE := Lib.hid hE
      have HLD := Lib.hid hl
      obtain ⟨x, hx⟩ : ∃ x, m.cb g 0 = x := ⟨_, rfl⟩
      obtain ⟨y, hy⟩ : ∃ y, m.cb g 1 = y := ⟨_, rfl⟩
      rw [hx, hy] at HLD
      rw [hx] at HV HB
      clear h hL hc hk hl hE ha hx hy hfew
      go_enter Tryz.func179, Tryz.ntmps179
      go_wp2_with fail
      refine HC.out.mono ?_
      rintro e w1 ⟨rfl, hx⟩
      have HX := Lib.hid hx
      clear hx
      go_wp2_with fail
      refine (HLD.out _ HX.out).mono ?_
      rintro e w2 ⟨A0, N0, A1, N1, rfl, h0, h1, hx⟩
      have HGE : Hid (∀ g o, A0 = some ⟨g, o, none⟩ → 0 < N0 → w.heap.size ≤ g) := Lib.hid fun g o hA hN => Nat.le_trans HX.out.size (h0.2 g o hA hN)
      have HX := Lib.hid (HX.out.trans hx)
      have H := Lib.hid h0
      clear h0 h1 hx
      go_wp2_with fail
      go_region
      go_wp2_with fail
      go_ret3
      rw [HV.out, HB.out, HEE.out]
      exact ⟨_, _, rfl, by repeat (first | exact H.out.1 | refine By.ext ?_ (Ext.drew (Ext.refl _)) | refine By.ext ?_ (Ext.alloc (Ext.refl _) _)), HGE.out, by repeat (first | exact HX.out | refine Ext.drew ?_ | refine Ext.alloc ?_ _)⟩
    · have hl := fun w' (hx : Ext w w') => load_at (h.ext hx) (hL.ext hx) r g hfew (loadE_up hE) _ _ rfl rfl 1 (by omega) (Lib.hid ha)
      have HV : Hid (m.loadV r g = mfl (m.cb g 1) r g 1 3) := Lib.hid (by unfold DM.loadV cellF; rw [if_pos hE, ha]; simp)
      have HB : Hid (m.loadB r g = mbl (m.cb g 1) r g 1) := Lib.hid (by unfold DM.loadB cellB; rw [if_pos hE, ha]; simp)
      have HEE := Lib.hid hE
      have HLD := Lib.hid hl
      obtain ⟨x, hx⟩ : ∃ x, m.cb g 0 = x := ⟨_, rfl⟩
      obtain ⟨y, hy⟩ : ∃ y, m.cb g 1 = y := ⟨_, rfl⟩
      rw [hx, hy] at HLD
      rw [hy] at HV HB
      clear h hL hc hk hl hE ha hx hy hfew
      go_enter Tryz.func179, Tryz.ntmps179
      go_wp2_with fail
      refine HC.out.mono ?_
      rintro e w1 ⟨rfl, hx⟩
      have HX := Lib.hid hx
      clear hx
      go_wp2_with fail
      refine (HLD.out _ HX.out).mono ?_
      rintro e w2 ⟨A0, N0, A1, N1, rfl, h0, h1, hx⟩
      have HGE : Hid (∀ g o, A1 = some ⟨g, o, none⟩ → 0 < N1 → w.heap.size ≤ g) := Lib.hid fun g o hA hN => Nat.le_trans HX.out.size (h1.2 g o hA hN)
      have HX := Lib.hid (HX.out.trans hx)
      have H := Lib.hid h1
      clear h0 h1 hx
      go_wp2_with fail
      go_region
      go_wp2_with fail
      go_ret3
      rw [HV.out, HB.out, HEE.out]
      exact ⟨_, _, rfl, by repeat (first | exact H.out.1 | refine By.ext ?_ (Ext.drew (Ext.refl _)) | refine By.ext ?_ (Ext.alloc (Ext.refl _) _)), HGE.out, by repeat (first | exact HX.out | refine Ext.drew ?_ | refine Ext.alloc ?_ _)⟩
    · have hl := fun w' (hx : Ext w w') => load_none (h.ext hx) (hL.ext hx) r g hfew hE ha
      have HV : Hid (m.loadV r g = 0) := Lib.hid (by unfold DM.loadV cellF; rw [if_pos hE, ha]; simp)
      have HB : Hid (m.loadB r g = []) := Lib.hid (by unfold DM.loadB cellB; rw [if_pos hE, ha]; simp)
      have HEE := Lib.hid hE
      have HLD := Lib.hid hl
      clear h hL hc hk hl hE ha hfew
      go_enter Tryz.func179, Tryz.ntmps179
      go_wp2_with fail
      refine HC.out.mono ?_
      rintro e w1 ⟨rfl, hx⟩
      have HX := Lib.hid hx
      clear hx
      go_wp2_with fail
      refine (HLD.out _ HX.out).mono ?_
      rintro e w2 ⟨⟨_, _, _, _, _, _, _, _, _, _, _, _, _, _, _, _, _, _, rfl⟩, hx⟩
      have HX := Lib.hid (HX.out.trans hx)
      clear hx
      go_wp2_with fail
      go_ret3
      rw [HV.out, HB.out, HEE.out]
      exact ⟨_, _, rfl, By.nil_ _, fun g o hA => (by cases hA), by repeat (first | exact HX.out | refine Ext.drew ?_ | refine Ext.alloc ?_ _)⟩
  · have hl := fun w' (hx : Ext w w') => load_fail (h.ext hx) (hL.ext hx) r g hfew _ rfl hE
    have HV : Hid (m.loadV r g = 0) := Lib.hid (by unfold DM.loadV; rw [if_neg hE])
    have HB : Hid (m.loadB r g = []) := Lib.hid (by unfold DM.loadB; rw [if_neg hE])
    have hne : (m.loadE r g != 0) = true := by simpa using hE
    generalize m.loadE r g = E at hl hne ⊢
    have HLD := Lib.hid hl
    clear h hL hc hk hl hE hfew
    go_enter Tryz.func179, Tryz.ntmps179
    go_wp2_with fail
    refine HC.out.mono ?_
    rintro e w1 ⟨rfl, hx⟩
    have HX := Lib.hid hx
    clear hx
    go_wp2_with fail
    refine (HLD.out _ HX.out).mono ?_
    rintro e w2 ⟨⟨_, _, _, _, _, _, _, _, _, _, _, _, _, _, _, _, _, _, rfl⟩, hx⟩
    have HX := Lib.hid (HX.out.trans hx)
    clear hx
    go_wp2_with fail
    go_ret3
    rw [HV.out, HB.out]
    exact ⟨_, _, rfl, By.nil_ _, fun g o hA => (by cases hA), by repeat (first | exact HX.out | refine Ext.drew ?_ | refine Ext.alloc ?_ _)⟩
theorem Load_of {w : World} {d : Nat} {F : Nat → Prop} {m : DM} (h : PDisk w d F m) (hL : LaidF w) (r g : Int) (hfew : m.waits.length ≤ 1000000) (hk : knownC m.size r g = 0) : Calls Tryz.prog 179 #[.pointer (some ⟨d, 0, none⟩), .int .i64 r, .int .i64 g] w fun e w' => ∃ A N, e = .returned (.tuple #[.int .i64 (m.loadV r g : Nat), .slice A N N, .int .i64 (m.loadE r g)]) ∧ By w' A N N (m.loadB r g) ∧ Ext w w' := (Load_own h hL r g hfew hk).mono fun _ _ ⟨A, N, h1, h2, _, h4⟩ => ⟨A, N, h1, h2, h4⟩
end
end Go.Proofs.YtmbmpabjclkhlaaGreatDoor
