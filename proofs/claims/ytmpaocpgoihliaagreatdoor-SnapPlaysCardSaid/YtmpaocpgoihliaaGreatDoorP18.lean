/-
  The contract of put: a frame is written to its place, and flushed; steps of a disk, one behind the other.
-/
import Derived.Test.YtmpaocpgoihliaaGreatDoorP00
import Derived.Test.YtmpaocpgoihliaaGreatDoorP09
import Derived.Test.YtmpaocpgoihliaaGreatDoorP17
namespace Go.Proofs.YtmpaocpgoihliaaGreatDoor
set_option maxRecDepth 100000
section
open Go Go.RowKit
set_option maxHeartbeats 800000 in
theorem cput_of {w : World} {d : Nat} {F : Nat → Prop} {m : DM} (h : PDisk w d F m) (hL : LaidF w) (a b c i t p : Int) (A : Option Addr) (n cp : Nat) (body : List Nat) (hb : By w A n cp body) (hs : sealE a b p i t n 1 = 0) (hfew : m.waits.length + 1 ≤ 1000000) :
 Calls Tryz.prog 158 #[.pointer (some ⟨d, 0, none⟩), .agg #[.int .i64 a, .int .i64 b, .int .i64 c, .int .i64 i, .int .i64 t], .int .i64 p, .slice A n cp] w fun e w' => e = .returned (.int .i64 (m.putC (firstS b p) (sealL a b p i t body 1)).1) ∧ Step d F w (m.putC (firstS b p) (sealL a b p i t body 1)).2 w' := by
 have hE := (Ext.refl w).alloc (.cells #[.int .i64 a, .int .i64 b, .int .i64 p, .int .i64 i, .int .i64 t] 44)
 have hT := heap_alloc_new w (.cells #[.int .i64 a, .int .i64 b, .int .i64 p, .int .i64 i, .int .i64 t] 44)
 have hlt : w.heap.size < (w.alloc (.cells #[.int .i64 a, .int .i64 b, .int .i64 p, .int .i64 i, .int .i64 t] 44)).heap.size := by simp
 have HE := Lib.hid hE
 have HT := Lib.hid hT
 have H := Lib.hid h
 have HL := Lib.hid hL
 have HB := Lib.hid hb
 have HSE := Lib.hid hs
 obtain ⟨L, hLL⟩ : ∃ L, sealL a b p i t body 1 = L := ⟨_, rfl⟩
 obtain ⟨S, hS⟩ : ∃ S, firstS b p = S := ⟨_, rfl⟩
 have HLL := Lib.hid hLL
 have HS := Lib.hid hS
 rw [hLL, hS]
 obtain ⟨R, hR⟩ : ∃ R, m.putC S L = R := ⟨_, rfl⟩
 have HRQ := Lib.hid hR
 rw [hR]
 clear hR
 obtain ⟨⟨c0, c1, c2, c3, c4⟩, _⟩ := five_cells hT
 clear hE hT h hL hb hs hLL hS
 go_enter Tryz.func158, Tryz.ntmps158
 go_wp2_with fail
 refine (seal_own a b p i t 1 A n cp body _ (HL.out.ext HE.out) (HB.out.ext HE.out)).mono ?_
 rw [HLL.out, HSE.out]
 rintro e w1 ⟨A1, k1, rfl, hb1, ho1, hx⟩
 have HB1 := Lib.hid hb1
 have hoff : Off F A1 := fun q hq hf => by
  subst hq
  have h1 := ((ho1 rfl).lt q.block rfl).1
  have h2 := H.out.lt _ hf
  simp at h1
  omega
 have HOFF := Lib.hid hoff
 have hrow := (hx.block _ hlt).trans HT.out
 have HE1 := Lib.hid (HE.out.trans hx)
 clear hb1 ho1 hoff hx c0 c1 c2 c3 c4 HT hlt
 obtain ⟨⟨c0, c1, c2, c3, c4⟩, _⟩ := five_cells hrow
 have HROW := Lib.hid hrow
 clear hrow
 go_wp2_with fail
 refine (first_any b p _ (HL.out.ext HE1.out).a.t).mono ?_
 rw [HS.out]
 rintro e w2 ⟨rfl, hx⟩
 have HE2 := Lib.hid (HE1.out.trans hx)
 have HB2 := Lib.hid (HB1.out.ext hx)
 clear hx c0 c1 c2 c3 c4
 have hwr := (write_pd (H.out.ext HE2.out) S A1 L.length k1 L HB2.out HOFF.out (by omega)).mono fun _ _ h => Outc.step h
 obtain ⟨E, hEE⟩ : ∃ E, (m.write S L).1 = E := ⟨_, rfl⟩
 obtain ⟨m1, hm1⟩ : ∃ m1, (m.write S L).2 = m1 := ⟨_, rfl⟩
 rw [hEE, hm1] at hwr
 have HWR := Lib.hid hwr
 have HEQ : Hid (m.write S L = (E, m1)) := Lib.hid (by rw [← hEE, ← hm1])
 clear hwr hEE hm1
 by_cases h0 : E = 0
 ·subst h0
  have HQ : Hid (R = m1.flush) := Lib.hid (by rw [← HRQ.out]; unfold DM.putC; rw [HEQ.out]; simp)
  go_wp2_with fail
  refine HWR.out.mono ?_
  rintro e w3 ⟨rfl, hs3⟩
  have HS3 := Lib.hid (Step.pre HE2.out hs3)
  clear hs3
  go_wp2_with fail
  refine ((flush_pd HS3.out.1).mono fun _ _ h => Outc.step h).mono ?_
  rintro e w4 ⟨rfl, hs4⟩
  have HS4 := Lib.hid (HS3.out.trans hs4)
  clear hs4
  go_wp2_with fail
  go_ret
  rw [HQ.out]
  exact ⟨rfl, HS4.out⟩
 ·have hne : (E != 0) = true := by simpa using h0
  have HQ : Hid (R = (E, m1)) := Lib.hid (by rw [← HRQ.out]; unfold DM.putC; rw [HEQ.out, if_pos h0])
  clear h0
  go_wp2_with fail
  refine HWR.out.mono ?_
  rintro e w3 ⟨rfl, hs3⟩
  have HS3 := Lib.hid (Step.pre HE2.out hs3)
  clear hs3
  go_wp2_with fail
  go_ret
  rw [HQ.out]
  exact ⟨rfl, HS3.out⟩
end
section
open Go Go.RowKit
theorem load_fail {w : World} {d : Nat} {F : Nat → Prop} {m : DM} (h : PDisk w d F m) (hL : LaidF w) (r g : Int) (hfew : m.waits.length ≤ 1000000) (E : Int) (hE : m.loadE r g = E) (h0 : E ≠ 0) : Calls Tryz.prog 155 #[.pointer (some ⟨d, 0, none⟩), .int .i64 r, .int .i64 g] w fun e w' => (∃ (s0 a0 b0 c0 d0 e0 s1 a1 b1 c1 d1 e1 : Int) (A0 A1 : Option Addr) (n0 m0 n1 m1 : Nat), e = .returned (.tuple #[.agg #[.int .u8 s0, .int .i64 a0, .int .i64 b0, .int .i64 c0, .int .i64 d0, .int .i64 e0, .slice A0 n0 m0, .int .u8 s1, .int .i64 a1, .int .i64 b1, .int .i64 c1, .int .i64 d1, .int .i64 e1, .slice A1 n1 m1], .int .i64 (-1), .int .i64 E])) ∧ Ext w w' := by
 unfold DM.loadE at hE
 split at hE
 ·rename_i hu
  subst hE
  exact load_down h r g hu
 ·rename_i hu
  have hu : m.up = true := by simpa using hu
  unfold cellE at hE
  split at hE
  ·rename_i hc
   subst hE
   exact load_bad h hL r g hfew hu _ _ rfl rfl (Lib.hid hc.1) (Lib.hid hc.2)
  ·exact absurd hE.symm h0
theorem load_none {w : World} {d : Nat} {F : Nat → Prop} {m : DM} (h : PDisk w d F m) (hL : LaidF w) (r g : Int) (hfew : m.waits.length ≤ 1000000) (hE : m.loadE r g = 0) (ha : atC r g (m.cb g 0) (m.cb g 1) = -1) : Calls Tryz.prog 155 #[.pointer (some ⟨d, 0, none⟩), .int .i64 r, .int .i64 g] w fun e w' => (∃ (s0 a0 b0 c0 d0 e0 s1 a1 b1 c1 d1 e1 : Int) (A0 A1 : Option Addr) (n0 m0 n1 m1 : Nat), e = .returned (.tuple #[.agg #[.int .u8 s0, .int .i64 a0, .int .i64 b0, .int .i64 c0, .int .i64 d0, .int .i64 e0, .slice A0 n0 m0, .int .u8 s1, .int .i64 a1, .int .i64 b1, .int .i64 c1, .int .i64 d1, .int .i64 e1, .slice A1 n1 m1], .int .i64 (-1), .int .i64 0])) ∧ Ext w w' := by
 unfold DM.loadE at hE
 split at hE
 ·cases hE
 ·rename_i hu
  have hu : m.up = true := by simpa using hu
  unfold cellE at hE
  split at hE
  ·cases hE
  ·rename_i hc
   exact load_no h hL r g hfew hu _ _ rfl rfl (Lib.hid ha) _ (fun h => hc ⟨ha, h⟩) (Lib.hid rfl)
theorem loadE_up {m : DM} {r g : Int} (hE : m.loadE r g = 0) : m.up = true := by
 unfold DM.loadE at hE
 split at hE
 ·cases hE
 ·rename_i hu; simpa using hu
theorem Load_unknown {w : World} {p : Option Addr} {sz : Nat} (hS : Sized w p sz) (hL : LaidT w) (r g : Int) (hk : knownC sz r g ≠ 0) :
 Calls Tryz.prog 152 #[.pointer p, .int .i64 r, .int .i64 g] w fun e w' => e = .returned (.tuple #[.int .i64 0, .slice none 0 0, .int .i64 (knownC sz r g)]) ∧ Ext w w' := by
 have hc := cknown_of hS hL r g
 obtain ⟨E, hE⟩ : ∃ E, knownC sz r g = E := ⟨_, rfl⟩
 rw [hE] at hc hk ⊢
 have HC := Lib.hid hc
 have hne : (E != 0) = true := by simpa using hk
 clear hS hL hc hE hk
 go_enter Tryz.func152, Tryz.ntmps152
 go_wp2_with fail
 refine HC.out.mono ?_
 rintro e w1 ⟨rfl, hx⟩
 have HX := Lib.hid hx
 clear hx
 go_wp2_with fail
 go_ret3
 exact ⟨rfl, HX.out⟩
set_option maxHeartbeats 800000 in
theorem Load_own {w : World} {d : Nat} {F : Nat → Prop} {m : DM} (h : PDisk w d F m) (hL : LaidF w) (r g : Int) (hfew : m.waits.length ≤ 1000000) (hk : knownC m.size r g = 0) : Calls Tryz.prog 152 #[.pointer (some ⟨d, 0, none⟩), .int .i64 r, .int .i64 g] w fun e w' => ∃ A N, e = .returned (.tuple #[.int .i64 (m.loadV r g : Nat), .slice A N N, .int .i64 (m.loadE r g)]) ∧ By w' A N N (m.loadB r g) ∧ (∀ g o, A = some ⟨g, o, none⟩ → 0 < N → w.heap.size ≤ g) ∧ Ext w w' := by
 have hc := cknown_of (Sized.of h) hL.a.t r g
 rw [hk] at hc
 have HC := Lib.hid hc
 by_cases hE : m.loadE r g = 0
 ·rcases atC_cases r g (m.cb g 0) (m.cb g 1) with ha | ha | ha
  ·have hl := fun w' (hx : Ext w w') => load_at (h.ext hx) (hL.ext hx) r g hfew (loadE_up hE) _ _ rfl rfl 0 (by omega) (Lib.hid ha)
   have HV : Hid (m.loadV r g = mfl (m.cb g 0) r g 0 3) := Lib.hid (by unfold DM.loadV cellF; rw [if_pos hE, ha]; simp)
   have HB : Hid (m.loadB r g = mbl (m.cb g 0) r g 0) := Lib.hid (by unfold DM.loadB cellB; rw [if_pos hE, ha]; simp)
   have HEE := Lib.hid hE
   have HLD := Lib.hid hl
   obtain ⟨x, hx⟩ : ∃ x, m.cb g 0 = x := ⟨_, rfl⟩
   obtain ⟨y, hy⟩ : ∃ y, m.cb g 1 = y := ⟨_, rfl⟩
   rw [hx, hy] at HLD
   rw [hx] at HV HB
   clear h hL hc hk hl hE ha hx hy hfew
   go_enter Tryz.func152, Tryz.ntmps152
   go_wp2_with fail
   refine HC.out.mono ?_
   rintro e w1 ⟨rfl, hx⟩
   have HX := Lib.hid hx
   clear hx
   go_wp2_with fail
   refine (HLD.out _ HX.out).mono ?_
   rintro e w2 ⟨A0, N0, A1, N1, rfl, h0, h1, hx⟩
   have HGE : Hid (∀ g o, A0 = some ⟨g, o, none⟩ → 0 < N0 → w.heap.size ≤ g) := Lib.hid fun g o hA hN => Nat.le_trans HX.out.size (h0.2 g o hA hN)
   have HX := Lib.hid (HX.out.trans hx)
   have H := Lib.hid h0
   clear h0 h1 hx
   go_wp2_with fail
   go_region
   go_wp2_with fail
   go_ret3
   rw [HV.out, HB.out, HEE.out]
   exact ⟨_, _, rfl, by repeat (first | exact H.out.1 | refine By.ext ?_ (Ext.drew (Ext.refl _)) | refine By.ext ?_ (Ext.alloc (Ext.refl _) _)), HGE.out, by repeat (first | exact HX.out | refine Ext.drew ?_ | refine Ext.alloc ?_ _)⟩
  ·have hl := fun w' (hx : Ext w w') => load_at (h.ext hx) (hL.ext hx) r g hfew (loadE_up hE) _ _ rfl rfl 1 (by omega) (Lib.hid ha)
   have HV : Hid (m.loadV r g = mfl (m.cb g 1) r g 1 3) := Lib.hid (by unfold DM.loadV cellF; rw [if_pos hE, ha]; simp)
   have HB : Hid (m.loadB r g = mbl (m.cb g 1) r g 1) := Lib.hid (by unfold DM.loadB cellB; rw [if_pos hE, ha]; simp)
   have HEE := Lib.hid hE
   have HLD := Lib.hid hl
   obtain ⟨x, hx⟩ : ∃ x, m.cb g 0 = x := ⟨_, rfl⟩
   obtain ⟨y, hy⟩ : ∃ y, m.cb g 1 = y := ⟨_, rfl⟩
   rw [hx, hy] at HLD
   rw [hy] at HV HB
   clear h hL hc hk hl hE ha hx hy hfew
   go_enter Tryz.func152, Tryz.ntmps152
   go_wp2_with fail
   refine HC.out.mono ?_
   rintro e w1 ⟨rfl, hx⟩
   have HX := Lib.hid hx
   clear hx
   go_wp2_with fail
   refine (HLD.out _ HX.out).mono ?_
   rintro e w2 ⟨A0, N0, A1, N1, rfl, h0, h1, hx⟩
   have HGE : Hid (∀ g o, A1 = some ⟨g, o, none⟩ → 0 < N1 → w.heap.size ≤ g) := Lib.hid fun g o hA hN => Nat.le_trans HX.out.size (h1.2 g o hA hN)
   have HX := Lib.hid (HX.out.trans hx)
   have H := Lib.hid h1
   clear h0 h1 hx
   go_wp2_with fail
   go_region
   go_wp2_with fail
   go_ret3
   rw [HV.out, HB.out, HEE.out]
   exact ⟨_, _, rfl, by repeat (first | exact H.out.1 | refine By.ext ?_ (Ext.drew (Ext.refl _)) | refine By.ext ?_ (Ext.alloc (Ext.refl _) _)), HGE.out, by repeat (first | exact HX.out | refine Ext.drew ?_ | refine Ext.alloc ?_ _)⟩
  ·have hl := fun w' (hx : Ext w w') => load_none (h.ext hx) (hL.ext hx) r g hfew hE ha
   have HV : Hid (m.loadV r g = 0) := Lib.hid (by unfold DM.loadV cellF; rw [if_pos hE, ha]; simp)
   have HB : Hid (m.loadB r g = []) := Lib.hid (by unfold DM.loadB cellB; rw [if_pos hE, ha]; simp)
   have HEE := Lib.hid hE
   have HLD := Lib.hid hl
   clear h hL hc hk hl hE ha hfew
   go_enter Tryz.func152, Tryz.ntmps152
   go_wp2_with fail
   refine HC.out.mono ?_
   rintro e w1 ⟨rfl, hx⟩
   have HX := Lib.hid hx
   clear hx
   go_wp2_with fail
   refine (HLD.out _ HX.out).mono ?_
   rintro e w2 ⟨⟨_, _, _, _, _, _, _, _, _, _, _, _, _, _, _, _, _, _, rfl⟩, hx⟩
   have HX := Lib.hid (HX.out.trans hx)
   clear hx
   go_wp2_with fail
   go_ret3
   rw [HV.out, HB.out, HEE.out]
   exact ⟨_, _, rfl, By.nil_ _, fun g o hA => (by cases hA), by repeat (first | exact HX.out | refine Ext.drew ?_ | refine Ext.alloc ?_ _)⟩
 ·have hl := fun w' (hx : Ext w w') => load_fail (h.ext hx) (hL.ext hx) r g hfew _ rfl hE
  have HV : Hid (m.loadV r g = 0) := Lib.hid (by unfold DM.loadV; rw [if_neg hE])
  have HB : Hid (m.loadB r g = []) := Lib.hid (by unfold DM.loadB; rw [if_neg hE])
  have hne : (m.loadE r g != 0) = true := by simpa using hE
  generalize m.loadE r g = E at hl hne ⊢
  have HLD := Lib.hid hl
  clear h hL hc hk hl hE hfew
  go_enter Tryz.func152, Tryz.ntmps152
  go_wp2_with fail
  refine HC.out.mono ?_
  rintro e w1 ⟨rfl, hx⟩
  have HX := Lib.hid hx
  clear hx
  go_wp2_with fail
  refine (HLD.out _ HX.out).mono ?_
  rintro e w2 ⟨⟨_, _, _, _, _, _, _, _, _, _, _, _, _, _, _, _, _, _, rfl⟩, hx⟩
  have HX := Lib.hid (HX.out.trans hx)
  clear hx
  go_wp2_with fail
  go_ret3
  rw [HV.out, HB.out]
  exact ⟨_, _, rfl, By.nil_ _, fun g o hA => (by cases hA), by repeat (first | exact HX.out | refine Ext.drew ?_ | refine Ext.alloc ?_ _)⟩
theorem Load_of {w : World} {d : Nat} {F : Nat → Prop} {m : DM} (h : PDisk w d F m) (hL : LaidF w) (r g : Int) (hfew : m.waits.length ≤ 1000000) (hk : knownC m.size r g = 0) : Calls Tryz.prog 152 #[.pointer (some ⟨d, 0, none⟩), .int .i64 r, .int .i64 g] w fun e w' => ∃ A N, e = .returned (.tuple #[.int .i64 (m.loadV r g : Nat), .slice A N N, .int .i64 (m.loadE r g)]) ∧ By w' A N N (m.loadB r g) ∧ Ext w w' := (Load_own h hL r g hfew hk).mono fun _ _ ⟨A, N, h1, h2, _, h4⟩ => ⟨A, N, h1, h2, h4⟩
end
end Go.Proofs.YtmpaocpgoihliaaGreatDoor
