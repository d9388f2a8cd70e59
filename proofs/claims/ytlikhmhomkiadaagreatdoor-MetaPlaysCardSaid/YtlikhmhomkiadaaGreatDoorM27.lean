/-
  The document's Heal over the document's disk.
-/
import Derived.Test.YtlikhmhomkiadaaGreatDoorM08
import Derived.Test.YtlikhmhomkiadaaGreatDoorM26
namespace Go.Proofs.YtlikhmhomkiadaaGreatDoor
open Go Go.RowKit

theorem heal_put0 {m : DM} {r g : Int} (h : m.Ok) (hE : m.loadE r g = 0) (ha : atC r g (m.cb g 0) (m.cb g 1) = 0) (hs : sameC r g (m.cb g 0) (m.cb g 1) = false) :
    m.heal r g = m.putC (firstS (mfl (m.cb g 0) r g 0 1 : Nat) 1) (sealL (mfl (m.cb g 0) r g 0 0 : Nat) (mfl (m.cb g 0) r g 0 1 : Nat) 1 (mfl (m.cb g 0) r g 0 3 : Nat) (mfl (m.cb g 0) r g 0 4 : Nat) (mbl (m.cb g 0) r g 0) 1) := by
  obtain ⟨h0, h1, _⟩ := mine_copy (x := m.cb g 0) (p := 0) (read_sect h _) (atC_zero ha)
  rw [h0, h1]
  unfold DM.heal
  rw [if_neg (by rw [hE]; simp), if_neg (by rw [hs, ha]; simp), ha]
  unfold sealC otherP cellF cellB
  rw [if_pos ha, if_pos ha, if_pos ha]
  rfl
theorem heal_put1 {m : DM} {r g : Int} (h : m.Ok) (hE : m.loadE r g = 0) (ha : atC r g (m.cb g 0) (m.cb g 1) = 1) (hs : sameC r g (m.cb g 0) (m.cb g 1) = false) :
    m.heal r g = m.putC (firstS (mfl (m.cb g 1) r g 1 1 : Nat) 0) (sealL (mfl (m.cb g 1) r g 1 0 : Nat) (mfl (m.cb g 1) r g 1 1 : Nat) 0 (mfl (m.cb g 1) r g 1 3 : Nat) (mfl (m.cb g 1) r g 1 4 : Nat) (mbl (m.cb g 1) r g 1) 1) := by
  obtain ⟨h0, h1, _⟩ := mine_copy (x := m.cb g 1) (p := 1) (read_sect h _) (atC_one ha)
  rw [h0, h1]
  unfold DM.heal
  rw [if_neg (by rw [hE]; simp), if_neg (by rw [hs, ha]; simp), ha]
  unfold sealC otherP cellF cellB
  rw [if_neg (by rw [ha]; omega), if_pos ha, if_neg (by rw [ha]; omega), if_pos ha, if_neg (by rw [ha]; omega), if_pos ha]
  rfl
theorem heal_same {m : DM} {r g : Int} (hE : m.loadE r g = 0) (hs : atC r g (m.cb g 0) (m.cb g 1) = -1 ∨ sameC r g (m.cb g 0) (m.cb g 1) = true) : m.heal r g = (0, m) := by
  unfold DM.heal
  rw [if_neg (by rw [hE]; simp), if_pos hs]
theorem heal_err {m : DM} {r g E : Int} (hE : m.loadE r g = E) (h0 : E ≠ 0) : m.heal r g = (E, m) := by
  unfold DM.heal
  rw [if_pos (by rw [hE]; exact h0), hE]
theorem rout_refl {w w' : World} {d : Nat} {p : Nat → Nat} {m : DM} (h : RD w d p m) (hx : Ext w w') : ROut d p w m w' := ⟨p, h.ext hx, Mod.of_ext hx, fun _ hk => .inl hk⟩

set_option maxRecDepth 100000 in
set_option maxHeartbeats 1600000 in
theorem rheal_of {w : World} {d : Nat} {p : Nat → Nat} {m : DM} (h : RD w d p m) (r g : Int) (hfew : m.waits.length + 1 ≤ 1000000) (hk : knownC m.size r g = 0) :
    Calls Tryz.prog 25 #[.pointer (some ⟨d, 0, none⟩), .int .i64 r, .int .i64 g] w fun e w' => e = .returned (.int .i64 (m.heal r g).1) ∧ ROut d p w (m.heal r g).2 w' := by
  have H := Lib.hid h
  have hm0 := fun V (hx : Ext w V) => rcmine_of (h.ext hx) r g 0 (by omega)
  have hm1 := fun V (hx : Ext w V) => rcmine_of (h.ext hx) r g 1 (by omega)
  have hwh := fun V (hx : Ext w V) => rwhich_of (h.ext hx) r g (by omega)
  have HL := Lib.hid (rload_of h r g (by omega) hk)
  have hok := (rd_size h).2.2
  have HW := Lib.hid hfew
  by_cases h0 : m.loadE r g = 0
  · rcases atC_cases r g (m.cb g 0) (m.cb g 1) with hc | hc | hc
    · have hce : cellE r g (m.cb g 0) (m.cb g 1) = 0 := cellE_at (by rw [hc]; omega)
      have hsm : sameC r g (m.cb g 0) (m.cb g 1) = (decide (stM (m.cb g 1) r g 1 = 1) && (decide (mfl (m.cb g 1) r g 1 3 = mfl (m.cb g 0) r g 0 3) && decide (mbl (m.cb g 1) r g 1 = mbl (m.cb g 0) r g 0))) := by unfold sameC; rw [if_pos hc]
      rw [hc, hce] at hwh
      have HWH := Lib.hid hwh
      rw [h0] at HL
      by_cases b1 : stM (m.cb g 1) r g 1 = 1
      · by_cases b2 : mfl (m.cb g 1) r g 1 3 = mfl (m.cb g 0) r g 0 3
        · by_cases b3 : mbl (m.cb g 1) r g 1 = mbl (m.cb g 0) r g 0
          · have HQ := Lib.hid (heal_same h0 (.inr (by rw [hsm, decide_eq_true b1, decide_eq_true b2, decide_eq_true b3]; rfl)))
            rw [HQ.out]
            clear hc hce hsm hwh h0 hok hk hfew h HQ
            generalize m.cb g 0 = x at *
            generalize m.cb g 1 = y at *
            have HM0 := Lib.hid hm0
            have HM1 := Lib.hid hm1
            have e1 : ((stM y r g 1 : Int) == 1) = true := by rw [b1]; rfl
            have e2 : ((mfl y r g 1 3 : Int) == (mfl x r g 0 3 : Int)) = true := by rw [b2]; simp
            have B3 := Lib.hid b3
            clear hm0 hm1 b1 b2 b3
            go_enter Tryz.func25, Tryz.ntmps25
            go_wp2_with fail
            refine HL.out.mono ?_
            rintro e w1 ⟨_, _, _, rfl, _, hx⟩
            have HX := Lib.hid hx
            clear hx
            go_wp2_with fail
            refine (HWH.out _ HX.out).mono ?_
            rintro e w2 ⟨rfl, hx⟩
            have HX := Lib.hid (HX.out.trans hx)
            clear hx
            go_wp2_with fail
            refine (HM0.out _ HX.out).mono ?_
            rintro e w3 ⟨A0, N0, k0, rfl, hb, hx⟩
            have HX := Lib.hid (HX.out.trans hx)
            have HB0 := Lib.hid hb
            have HT0 := Lib.hid (heap_alloc_new w3 (.cells #[.int .i64 (mfl x r g 0 0 : Nat), .int .i64 (mfl x r g 0 1 : Nat), .int .i64 (mfl x r g 0 2 : Nat), .int .i64 (mfl x r g 0 3 : Nat), .int .i64 (mfl x r g 0 4 : Nat)] 33))
            have HF0 := Lib.hid HX.out.size
            have HX3 := Lib.hid ((Ext.refl w3).alloc (.cells #[.int .i64 (mfl x r g 0 0 : Nat), .int .i64 (mfl x r g 0 1 : Nat), .int .i64 (mfl x r g 0 2 : Nat), .int .i64 (mfl x r g 0 3 : Nat), .int .i64 (mfl x r g 0 4 : Nat)] 33))
            have HX := Lib.hid (HX.out.alloc (.cells #[.int .i64 (mfl x r g 0 0 : Nat), .int .i64 (mfl x r g 0 1 : Nat), .int .i64 (mfl x r g 0 2 : Nat), .int .i64 (mfl x r g 0 3 : Nat), .int .i64 (mfl x r g 0 4 : Nat)] 33))
            clear hx hb
            go_wp2_with fail
            refine (HM1.out _ HX.out).mono ?_
            rintro e w4 ⟨A1, N1, k1, rfl, hb, hx⟩
            have HX := Lib.hid ((HX.out.trans hx).alloc (.cells #[.int .i64 (mfl y r g 1 0 : Nat), .int .i64 (mfl y r g 1 1 : Nat), .int .i64 (mfl y r g 1 2 : Nat), .int .i64 (mfl y r g 1 3 : Nat), .int .i64 (mfl y r g 1 4 : Nat)] 33))
            have HX3 := Lib.hid ((HX3.out.trans hx).alloc (.cells #[.int .i64 (mfl y r g 1 0 : Nat), .int .i64 (mfl y r g 1 1 : Nat), .int .i64 (mfl y r g 1 2 : Nat), .int .i64 (mfl y r g 1 3 : Nat), .int .i64 (mfl y r g 1 4 : Nat)] 33))
            have HB1 := Lib.hid (hb.ext ((Ext.refl w4).alloc (.cells #[.int .i64 (mfl y r g 1 0 : Nat), .int .i64 (mfl y r g 1 1 : Nat), .int .i64 (mfl y r g 1 2 : Nat), .int .i64 (mfl y r g 1 3 : Nat), .int .i64 (mfl y r g 1 4 : Nat)] 33)))
            have HT0 := Lib.hid ((hx.block _ (Array.getElem?_eq_some_iff.1 HT0.out).1).trans HT0.out)
            have HT0 := Lib.hid ((heap_alloc_old w4 (.cells #[.int .i64 (mfl y r g 1 0 : Nat), .int .i64 (mfl y r g 1 1 : Nat), .int .i64 (mfl y r g 1 2 : Nat), .int .i64 (mfl y r g 1 3 : Nat), .int .i64 (mfl y r g 1 4 : Nat)] 33) (Array.getElem?_eq_some_iff.1 HT0.out).1).trans HT0.out)
            have HT1 := Lib.hid (heap_alloc_new w4 (.cells #[.int .i64 (mfl y r g 1 0 : Nat), .int .i64 (mfl y r g 1 1 : Nat), .int .i64 (mfl y r g 1 2 : Nat), .int .i64 (mfl y r g 1 3 : Nat), .int .i64 (mfl y r g 1 4 : Nat)] 33))
            clear hx hb
            obtain ⟨⟨p0, p1, p2, p3, p4⟩, q0, q1, q2, q3, q4⟩ := five_cells HT0.out
            obtain ⟨⟨_, _, _, y3, _⟩, _⟩ := five_cells HT1.out
            go_wp2_with fail
            refine (same_by A1 A0 (mbl y r g 1) (mbl x r g 0) _ _ _ _ _ HB1.out (HB0.out.ext HX3.out)).mono ?_
            rw [decide_eq_true B3.out]
            rintro e w5 ⟨rfl, hx⟩
            have HX := Lib.hid (HX.out.trans hx)
            have HX3 := Lib.hid (HX3.out.trans hx)
            have HT0 := Lib.hid ((hx.block _ (Array.getElem?_eq_some_iff.1 HT0.out).1).trans HT0.out)
            clear hx p0 p1 p2 p3 p4 q0 q1 q2 q3 q4 y3
            obtain ⟨⟨p0, p1, p2, p3, p4⟩, q0, q1, q2, q3, q4⟩ := five_cells HT0.out
            go_wp2_with fail
            go_ret
            exact ⟨rfl, rout_refl H.out HX.out⟩
          · have hput := heal_put0 hok h0 hc (by rw [hsm, decide_eq_false b3]; simp)
            have hrp : ∀ (V : World) (hV : Ext w V) (A : Option Addr) (n cp : Nat) (hb : By V A n cp (mbl (m.cb g 0) r g 0)), Calls Tryz.prog 69 #[.pointer (some ⟨d, 0, none⟩), .agg #[.int .i64 (mfl (m.cb g 0) r g 0 0 : Nat), .int .i64 (mfl (m.cb g 0) r g 0 1 : Nat), .int .i64 1, .int .i64 (mfl (m.cb g 0) r g 0 3 : Nat), .int .i64 (mfl (m.cb g 0) r g 0 4 : Nat)], .slice A n cp] V fun e w' => e = .returned (.int .i64 (m.heal r g).1) ∧ ROut d p V (m.heal r g).2 w' := fun V hV A n cp hb => by
              have := rput_of (H.out.ext hV) (mfl (m.cb g 0) r g 0 0 : Nat) (mfl (m.cb g 0) r g 0 1 : Nat) 1 (mfl (m.cb g 0) r g 0 3 : Nat) (mfl (m.cb g 0) r g 0 4 : Nat) A n cp _ hb HW.out
              rw [← hput] at this
              exact this
            have HRP := Lib.hid hrp
            clear hput hrp
            generalize m.heal r g = RR at *
            clear hc hce hsm hwh h0 hok hk hfew h
            generalize m.cb g 0 = x at *
            generalize m.cb g 1 = y at *
            have HM0 := Lib.hid hm0
            have HM1 := Lib.hid hm1
            have e1 : ((stM y r g 1 : Int) == 1) = true := by rw [b1]; rfl
            have e2 : ((mfl y r g 1 3 : Int) == (mfl x r g 0 3 : Int)) = true := by rw [b2]; simp
            have B3 := Lib.hid b3
            clear hm0 hm1 b1 b2 b3
            go_enter Tryz.func25, Tryz.ntmps25
            go_wp2_with fail
            refine HL.out.mono ?_
            rintro e w1 ⟨_, _, _, rfl, _, hx⟩
            have HX := Lib.hid hx
            clear hx
            go_wp2_with fail
            refine (HWH.out _ HX.out).mono ?_
            rintro e w2 ⟨rfl, hx⟩
            have HX := Lib.hid (HX.out.trans hx)
            clear hx
            go_wp2_with fail
            refine (HM0.out _ HX.out).mono ?_
            rintro e w3 ⟨A0, N0, k0, rfl, hb, hx⟩
            have HX := Lib.hid (HX.out.trans hx)
            have HB0 := Lib.hid hb
            have HT0 := Lib.hid (heap_alloc_new w3 (.cells #[.int .i64 (mfl x r g 0 0 : Nat), .int .i64 (mfl x r g 0 1 : Nat), .int .i64 (mfl x r g 0 2 : Nat), .int .i64 (mfl x r g 0 3 : Nat), .int .i64 (mfl x r g 0 4 : Nat)] 33))
            have HF0 := Lib.hid HX.out.size
            have HX3 := Lib.hid ((Ext.refl w3).alloc (.cells #[.int .i64 (mfl x r g 0 0 : Nat), .int .i64 (mfl x r g 0 1 : Nat), .int .i64 (mfl x r g 0 2 : Nat), .int .i64 (mfl x r g 0 3 : Nat), .int .i64 (mfl x r g 0 4 : Nat)] 33))
            have HX := Lib.hid (HX.out.alloc (.cells #[.int .i64 (mfl x r g 0 0 : Nat), .int .i64 (mfl x r g 0 1 : Nat), .int .i64 (mfl x r g 0 2 : Nat), .int .i64 (mfl x r g 0 3 : Nat), .int .i64 (mfl x r g 0 4 : Nat)] 33))
            clear hx hb
            go_wp2_with fail
            refine (HM1.out _ HX.out).mono ?_
            rintro e w4 ⟨A1, N1, k1, rfl, hb, hx⟩
            have HX := Lib.hid ((HX.out.trans hx).alloc (.cells #[.int .i64 (mfl y r g 1 0 : Nat), .int .i64 (mfl y r g 1 1 : Nat), .int .i64 (mfl y r g 1 2 : Nat), .int .i64 (mfl y r g 1 3 : Nat), .int .i64 (mfl y r g 1 4 : Nat)] 33))
            have HX3 := Lib.hid ((HX3.out.trans hx).alloc (.cells #[.int .i64 (mfl y r g 1 0 : Nat), .int .i64 (mfl y r g 1 1 : Nat), .int .i64 (mfl y r g 1 2 : Nat), .int .i64 (mfl y r g 1 3 : Nat), .int .i64 (mfl y r g 1 4 : Nat)] 33))
            have HB1 := Lib.hid (hb.ext ((Ext.refl w4).alloc (.cells #[.int .i64 (mfl y r g 1 0 : Nat), .int .i64 (mfl y r g 1 1 : Nat), .int .i64 (mfl y r g 1 2 : Nat), .int .i64 (mfl y r g 1 3 : Nat), .int .i64 (mfl y r g 1 4 : Nat)] 33)))
            have HT0 := Lib.hid ((hx.block _ (Array.getElem?_eq_some_iff.1 HT0.out).1).trans HT0.out)
            have HT0 := Lib.hid ((heap_alloc_old w4 (.cells #[.int .i64 (mfl y r g 1 0 : Nat), .int .i64 (mfl y r g 1 1 : Nat), .int .i64 (mfl y r g 1 2 : Nat), .int .i64 (mfl y r g 1 3 : Nat), .int .i64 (mfl y r g 1 4 : Nat)] 33) (Array.getElem?_eq_some_iff.1 HT0.out).1).trans HT0.out)
            have HT1 := Lib.hid (heap_alloc_new w4 (.cells #[.int .i64 (mfl y r g 1 0 : Nat), .int .i64 (mfl y r g 1 1 : Nat), .int .i64 (mfl y r g 1 2 : Nat), .int .i64 (mfl y r g 1 3 : Nat), .int .i64 (mfl y r g 1 4 : Nat)] 33))
            clear hx hb
            obtain ⟨⟨p0, p1, p2, p3, p4⟩, q0, q1, q2, q3, q4⟩ := five_cells HT0.out
            obtain ⟨⟨_, _, _, y3, _⟩, _⟩ := five_cells HT1.out
            go_wp2_with fail
            refine (same_by A1 A0 (mbl y r g 1) (mbl x r g 0) _ _ _ _ _ HB1.out (HB0.out.ext HX3.out)).mono ?_
            rw [decide_eq_false B3.out]
            rintro e w5 ⟨rfl, hx⟩
            have HX := Lib.hid (HX.out.trans hx)
            have HX3 := Lib.hid (HX3.out.trans hx)
            have HT0 := Lib.hid ((hx.block _ (Array.getElem?_eq_some_iff.1 HT0.out).1).trans HT0.out)
            clear hx p0 p1 p2 p3 p4 q0 q1 q2 q3 q4 y3
            obtain ⟨⟨p0, p1, p2, p3, p4⟩, q0, q1, q2, q3, q4⟩ := five_cells HT0.out
            go_wp2_with fail
            have hX2 : Ext w (w5.setCell ⟨w3.heap.size, 2, none⟩ (.int .i64 1)) := HX.out.setCell (p := ⟨w3.heap.size, 2, none⟩) HF0.out _
            have hX3 : Ext w3 (w5.setCell ⟨w3.heap.size, 2, none⟩ (.int .i64 1)) := HX3.out.setCell (p := ⟨w3.heap.size, 2, none⟩) (Nat.le_refl _) _
            refine (HRP.out _ hX2 A0 N0 k0 (HB0.out.ext hX3)).mono ?_
            rintro e w6 ⟨rfl, ho⟩
            have HO := Lib.hid (ho.from hX2)
            clear ho hX2 hX3
            go_wp2_with fail
            go_ret
            exact ⟨rfl, HO.out⟩
        · have hput := heal_put0 hok h0 hc (by rw [hsm, decide_eq_false b2]; simp)
          have hrp : ∀ (V : World) (hV : Ext w V) (A : Option Addr) (n cp : Nat) (hb : By V A n cp (mbl (m.cb g 0) r g 0)), Calls Tryz.prog 69 #[.pointer (some ⟨d, 0, none⟩), .agg #[.int .i64 (mfl (m.cb g 0) r g 0 0 : Nat), .int .i64 (mfl (m.cb g 0) r g 0 1 : Nat), .int .i64 1, .int .i64 (mfl (m.cb g 0) r g 0 3 : Nat), .int .i64 (mfl (m.cb g 0) r g 0 4 : Nat)], .slice A n cp] V fun e w' => e = .returned (.int .i64 (m.heal r g).1) ∧ ROut d p V (m.heal r g).2 w' := fun V hV A n cp hb => by
            have := rput_of (H.out.ext hV) (mfl (m.cb g 0) r g 0 0 : Nat) (mfl (m.cb g 0) r g 0 1 : Nat) 1 (mfl (m.cb g 0) r g 0 3 : Nat) (mfl (m.cb g 0) r g 0 4 : Nat) A n cp _ hb HW.out
            rw [← hput] at this
            exact this
          have HRP := Lib.hid hrp
          clear hput hrp
          generalize m.heal r g = RR at *
          clear hc hce hsm hwh h0 hok hk hfew h
          generalize m.cb g 0 = x at *
          generalize m.cb g 1 = y at *
          have HM0 := Lib.hid hm0
          have HM1 := Lib.hid hm1
          have e1 : ((stM y r g 1 : Int) == 1) = true := by rw [b1]; rfl
          have e2 : ((mfl y r g 1 3 : Int) == (mfl x r g 0 3 : Int)) = false := by rw [beq_eq_false_iff_ne]; intro h; exact b2 (by omega)
          clear hm0 hm1 b1 b2
          go_enter Tryz.func25, Tryz.ntmps25
          go_wp2_with fail
          refine HL.out.mono ?_
          rintro e w1 ⟨_, _, _, rfl, _, hx⟩
          have HX := Lib.hid hx
          clear hx
          go_wp2_with fail
          refine (HWH.out _ HX.out).mono ?_
          rintro e w2 ⟨rfl, hx⟩
          have HX := Lib.hid (HX.out.trans hx)
          clear hx
          go_wp2_with fail
          refine (HM0.out _ HX.out).mono ?_
          rintro e w3 ⟨A0, N0, k0, rfl, hb, hx⟩
          have HX := Lib.hid (HX.out.trans hx)
          have HB0 := Lib.hid hb
          have HT0 := Lib.hid (heap_alloc_new w3 (.cells #[.int .i64 (mfl x r g 0 0 : Nat), .int .i64 (mfl x r g 0 1 : Nat), .int .i64 (mfl x r g 0 2 : Nat), .int .i64 (mfl x r g 0 3 : Nat), .int .i64 (mfl x r g 0 4 : Nat)] 33))
          have HF0 := Lib.hid HX.out.size
          have HX3 := Lib.hid ((Ext.refl w3).alloc (.cells #[.int .i64 (mfl x r g 0 0 : Nat), .int .i64 (mfl x r g 0 1 : Nat), .int .i64 (mfl x r g 0 2 : Nat), .int .i64 (mfl x r g 0 3 : Nat), .int .i64 (mfl x r g 0 4 : Nat)] 33))
          have HX := Lib.hid (HX.out.alloc (.cells #[.int .i64 (mfl x r g 0 0 : Nat), .int .i64 (mfl x r g 0 1 : Nat), .int .i64 (mfl x r g 0 2 : Nat), .int .i64 (mfl x r g 0 3 : Nat), .int .i64 (mfl x r g 0 4 : Nat)] 33))
          clear hx hb
          go_wp2_with fail
          refine (HM1.out _ HX.out).mono ?_
          rintro e w4 ⟨A1, N1, k1, rfl, hb, hx⟩
          have HX := Lib.hid ((HX.out.trans hx).alloc (.cells #[.int .i64 (mfl y r g 1 0 : Nat), .int .i64 (mfl y r g 1 1 : Nat), .int .i64 (mfl y r g 1 2 : Nat), .int .i64 (mfl y r g 1 3 : Nat), .int .i64 (mfl y r g 1 4 : Nat)] 33))
          have HX3 := Lib.hid ((HX3.out.trans hx).alloc (.cells #[.int .i64 (mfl y r g 1 0 : Nat), .int .i64 (mfl y r g 1 1 : Nat), .int .i64 (mfl y r g 1 2 : Nat), .int .i64 (mfl y r g 1 3 : Nat), .int .i64 (mfl y r g 1 4 : Nat)] 33))
          have HB1 := Lib.hid (hb.ext ((Ext.refl w4).alloc (.cells #[.int .i64 (mfl y r g 1 0 : Nat), .int .i64 (mfl y r g 1 1 : Nat), .int .i64 (mfl y r g 1 2 : Nat), .int .i64 (mfl y r g 1 3 : Nat), .int .i64 (mfl y r g 1 4 : Nat)] 33)))
          have HT0 := Lib.hid ((hx.block _ (Array.getElem?_eq_some_iff.1 HT0.out).1).trans HT0.out)
          have HT0 := Lib.hid ((heap_alloc_old w4 (.cells #[.int .i64 (mfl y r g 1 0 : Nat), .int .i64 (mfl y r g 1 1 : Nat), .int .i64 (mfl y r g 1 2 : Nat), .int .i64 (mfl y r g 1 3 : Nat), .int .i64 (mfl y r g 1 4 : Nat)] 33) (Array.getElem?_eq_some_iff.1 HT0.out).1).trans HT0.out)
          have HT1 := Lib.hid (heap_alloc_new w4 (.cells #[.int .i64 (mfl y r g 1 0 : Nat), .int .i64 (mfl y r g 1 1 : Nat), .int .i64 (mfl y r g 1 2 : Nat), .int .i64 (mfl y r g 1 3 : Nat), .int .i64 (mfl y r g 1 4 : Nat)] 33))
          clear hx hb
          obtain ⟨⟨p0, p1, p2, p3, p4⟩, q0, q1, q2, q3, q4⟩ := five_cells HT0.out
          obtain ⟨⟨_, _, _, y3, _⟩, _⟩ := five_cells HT1.out
          go_wp2_with fail
          have hX2 : Ext w ((w4.alloc (.cells #[.int .i64 (mfl y r g 1 0 : Nat), .int .i64 (mfl y r g 1 1 : Nat), .int .i64 (mfl y r g 1 2 : Nat), .int .i64 (mfl y r g 1 3 : Nat), .int .i64 (mfl y r g 1 4 : Nat)] 33)).setCell ⟨w3.heap.size, 2, none⟩ (.int .i64 1)) := HX.out.setCell (p := ⟨w3.heap.size, 2, none⟩) HF0.out _
          have hX3 : Ext w3 ((w4.alloc (.cells #[.int .i64 (mfl y r g 1 0 : Nat), .int .i64 (mfl y r g 1 1 : Nat), .int .i64 (mfl y r g 1 2 : Nat), .int .i64 (mfl y r g 1 3 : Nat), .int .i64 (mfl y r g 1 4 : Nat)] 33)).setCell ⟨w3.heap.size, 2, none⟩ (.int .i64 1)) := HX3.out.setCell (p := ⟨w3.heap.size, 2, none⟩) (Nat.le_refl _) _
          refine (HRP.out _ hX2 A0 N0 k0 (HB0.out.ext hX3)).mono ?_
          rintro e w6 ⟨rfl, ho⟩
          have HO := Lib.hid (ho.from hX2)
          clear ho hX2 hX3
          go_wp2_with fail
          go_ret
          exact ⟨rfl, HO.out⟩
      · have hput := heal_put0 hok h0 hc (by rw [hsm, decide_eq_false b1]; simp)
        have hrp : ∀ (V : World) (hV : Ext w V) (A : Option Addr) (n cp : Nat) (hb : By V A n cp (mbl (m.cb g 0) r g 0)), Calls Tryz.prog 69 #[.pointer (some ⟨d, 0, none⟩), .agg #[.int .i64 (mfl (m.cb g 0) r g 0 0 : Nat), .int .i64 (mfl (m.cb g 0) r g 0 1 : Nat), .int .i64 1, .int .i64 (mfl (m.cb g 0) r g 0 3 : Nat), .int .i64 (mfl (m.cb g 0) r g 0 4 : Nat)], .slice A n cp] V fun e w' => e = .returned (.int .i64 (m.heal r g).1) ∧ ROut d p V (m.heal r g).2 w' := fun V hV A n cp hb => by
          have := rput_of (H.out.ext hV) (mfl (m.cb g 0) r g 0 0 : Nat) (mfl (m.cb g 0) r g 0 1 : Nat) 1 (mfl (m.cb g 0) r g 0 3 : Nat) (mfl (m.cb g 0) r g 0 4 : Nat) A n cp _ hb HW.out
          rw [← hput] at this
          exact this
        have HRP := Lib.hid hrp
        clear hput hrp
        generalize m.heal r g = RR at *
        clear hc hce hsm hwh h0 hok hk hfew h
        generalize m.cb g 0 = x at *
        generalize m.cb g 1 = y at *
        have HM0 := Lib.hid hm0
        have HM1 := Lib.hid hm1
        have e1 : ((stM y r g 1 : Int) == 1) = false := by rw [beq_eq_false_iff_ne]; intro h; exact b1 (by omega)
        clear hm0 hm1 b1
        go_enter Tryz.func25, Tryz.ntmps25
        go_wp2_with fail
        refine HL.out.mono ?_
        rintro e w1 ⟨_, _, _, rfl, _, hx⟩
        have HX := Lib.hid hx
        clear hx
        go_wp2_with fail
        refine (HWH.out _ HX.out).mono ?_
        rintro e w2 ⟨rfl, hx⟩
        have HX := Lib.hid (HX.out.trans hx)
        clear hx
        go_wp2_with fail
        refine (HM0.out _ HX.out).mono ?_
        rintro e w3 ⟨A0, N0, k0, rfl, hb, hx⟩
        have HX := Lib.hid (HX.out.trans hx)
        have HB0 := Lib.hid hb
        have HT0 := Lib.hid (heap_alloc_new w3 (.cells #[.int .i64 (mfl x r g 0 0 : Nat), .int .i64 (mfl x r g 0 1 : Nat), .int .i64 (mfl x r g 0 2 : Nat), .int .i64 (mfl x r g 0 3 : Nat), .int .i64 (mfl x r g 0 4 : Nat)] 33))
        have HF0 := Lib.hid HX.out.size
        have HX3 := Lib.hid ((Ext.refl w3).alloc (.cells #[.int .i64 (mfl x r g 0 0 : Nat), .int .i64 (mfl x r g 0 1 : Nat), .int .i64 (mfl x r g 0 2 : Nat), .int .i64 (mfl x r g 0 3 : Nat), .int .i64 (mfl x r g 0 4 : Nat)] 33))
        have HX := Lib.hid (HX.out.alloc (.cells #[.int .i64 (mfl x r g 0 0 : Nat), .int .i64 (mfl x r g 0 1 : Nat), .int .i64 (mfl x r g 0 2 : Nat), .int .i64 (mfl x r g 0 3 : Nat), .int .i64 (mfl x r g 0 4 : Nat)] 33))
        clear hx hb
        go_wp2_with fail
        refine (HM1.out _ HX.out).mono ?_
        rintro e w4 ⟨A1, N1, k1, rfl, hb, hx⟩
        have HX := Lib.hid ((HX.out.trans hx).alloc (.cells #[.int .i64 (mfl y r g 1 0 : Nat), .int .i64 (mfl y r g 1 1 : Nat), .int .i64 (mfl y r g 1 2 : Nat), .int .i64 (mfl y r g 1 3 : Nat), .int .i64 (mfl y r g 1 4 : Nat)] 33))
        have HX3 := Lib.hid ((HX3.out.trans hx).alloc (.cells #[.int .i64 (mfl y r g 1 0 : Nat), .int .i64 (mfl y r g 1 1 : Nat), .int .i64 (mfl y r g 1 2 : Nat), .int .i64 (mfl y r g 1 3 : Nat), .int .i64 (mfl y r g 1 4 : Nat)] 33))
        have HB1 := Lib.hid (hb.ext ((Ext.refl w4).alloc (.cells #[.int .i64 (mfl y r g 1 0 : Nat), .int .i64 (mfl y r g 1 1 : Nat), .int .i64 (mfl y r g 1 2 : Nat), .int .i64 (mfl y r g 1 3 : Nat), .int .i64 (mfl y r g 1 4 : Nat)] 33)))
        have HT0 := Lib.hid ((hx.block _ (Array.getElem?_eq_some_iff.1 HT0.out).1).trans HT0.out)
        have HT0 := Lib.hid ((heap_alloc_old w4 (.cells #[.int .i64 (mfl y r g 1 0 : Nat), .int .i64 (mfl y r g 1 1 : Nat), .int .i64 (mfl y r g 1 2 : Nat), .int .i64 (mfl y r g 1 3 : Nat), .int .i64 (mfl y r g 1 4 : Nat)] 33) (Array.getElem?_eq_some_iff.1 HT0.out).1).trans HT0.out)
        have HT1 := Lib.hid (heap_alloc_new w4 (.cells #[.int .i64 (mfl y r g 1 0 : Nat), .int .i64 (mfl y r g 1 1 : Nat), .int .i64 (mfl y r g 1 2 : Nat), .int .i64 (mfl y r g 1 3 : Nat), .int .i64 (mfl y r g 1 4 : Nat)] 33))
        clear hx hb
        obtain ⟨⟨p0, p1, p2, p3, p4⟩, q0, q1, q2, q3, q4⟩ := five_cells HT0.out
        obtain ⟨⟨_, _, _, y3, _⟩, _⟩ := five_cells HT1.out
        go_wp2_with fail
        have hX2 : Ext w ((w4.alloc (.cells #[.int .i64 (mfl y r g 1 0 : Nat), .int .i64 (mfl y r g 1 1 : Nat), .int .i64 (mfl y r g 1 2 : Nat), .int .i64 (mfl y r g 1 3 : Nat), .int .i64 (mfl y r g 1 4 : Nat)] 33)).setCell ⟨w3.heap.size, 2, none⟩ (.int .i64 1)) := HX.out.setCell (p := ⟨w3.heap.size, 2, none⟩) HF0.out _
        have hX3 : Ext w3 ((w4.alloc (.cells #[.int .i64 (mfl y r g 1 0 : Nat), .int .i64 (mfl y r g 1 1 : Nat), .int .i64 (mfl y r g 1 2 : Nat), .int .i64 (mfl y r g 1 3 : Nat), .int .i64 (mfl y r g 1 4 : Nat)] 33)).setCell ⟨w3.heap.size, 2, none⟩ (.int .i64 1)) := HX3.out.setCell (p := ⟨w3.heap.size, 2, none⟩) (Nat.le_refl _) _
        refine (HRP.out _ hX2 A0 N0 k0 (HB0.out.ext hX3)).mono ?_
        rintro e w6 ⟨rfl, ho⟩
        have HO := Lib.hid (ho.from hX2)
        clear ho hX2 hX3
        go_wp2_with fail
        go_ret
        exact ⟨rfl, HO.out⟩
    · have hce : cellE r g (m.cb g 0) (m.cb g 1) = 0 := cellE_at (by rw [hc]; omega)
      have hsm : sameC r g (m.cb g 0) (m.cb g 1) = (decide (stM (m.cb g 0) r g 0 = 1) && (decide (mfl (m.cb g 0) r g 0 3 = mfl (m.cb g 1) r g 1 3) && decide (mbl (m.cb g 0) r g 0 = mbl (m.cb g 1) r g 1))) := by unfold sameC; rw [if_neg (by rw [hc]; omega)]
      rw [hc, hce] at hwh
      have HWH := Lib.hid hwh
      rw [h0] at HL
      by_cases b1 : stM (m.cb g 0) r g 0 = 1
      · by_cases b2 : mfl (m.cb g 0) r g 0 3 = mfl (m.cb g 1) r g 1 3
        · by_cases b3 : mbl (m.cb g 0) r g 0 = mbl (m.cb g 1) r g 1
          · have HQ := Lib.hid (heal_same h0 (.inr (by rw [hsm, decide_eq_true b1, decide_eq_true b2, decide_eq_true b3]; rfl)))
            rw [HQ.out]
            clear hc hce hsm hwh h0 hok hk hfew h HQ
            generalize m.cb g 0 = x at *
            generalize m.cb g 1 = y at *
            have HM0 := Lib.hid hm0
            have HM1 := Lib.hid hm1
            have e1 : ((stM x r g 0 : Int) == 1) = true := by rw [b1]; rfl
            have e2 : ((mfl x r g 0 3 : Int) == (mfl y r g 1 3 : Int)) = true := by rw [b2]; simp
            have B3 := Lib.hid b3
            clear hm0 hm1 b1 b2 b3
            go_enter Tryz.func25, Tryz.ntmps25
            go_wp2_with fail
            refine HL.out.mono ?_
            rintro e w1 ⟨_, _, _, rfl, _, hx⟩
            have HX := Lib.hid hx
            clear hx
            go_wp2_with fail
            refine (HWH.out _ HX.out).mono ?_
            rintro e w2 ⟨rfl, hx⟩
            have HX := Lib.hid (HX.out.trans hx)
            clear hx
            go_wp2_with fail
            refine (HM1.out _ HX.out).mono ?_
            rintro e w3 ⟨A0, N0, k0, rfl, hb, hx⟩
            have HX := Lib.hid (HX.out.trans hx)
            have HB0 := Lib.hid hb
            have HT0 := Lib.hid (heap_alloc_new w3 (.cells #[.int .i64 (mfl y r g 1 0 : Nat), .int .i64 (mfl y r g 1 1 : Nat), .int .i64 (mfl y r g 1 2 : Nat), .int .i64 (mfl y r g 1 3 : Nat), .int .i64 (mfl y r g 1 4 : Nat)] 33))
            have HF0 := Lib.hid HX.out.size
            have HX3 := Lib.hid ((Ext.refl w3).alloc (.cells #[.int .i64 (mfl y r g 1 0 : Nat), .int .i64 (mfl y r g 1 1 : Nat), .int .i64 (mfl y r g 1 2 : Nat), .int .i64 (mfl y r g 1 3 : Nat), .int .i64 (mfl y r g 1 4 : Nat)] 33))
            have HX := Lib.hid (HX.out.alloc (.cells #[.int .i64 (mfl y r g 1 0 : Nat), .int .i64 (mfl y r g 1 1 : Nat), .int .i64 (mfl y r g 1 2 : Nat), .int .i64 (mfl y r g 1 3 : Nat), .int .i64 (mfl y r g 1 4 : Nat)] 33))
            clear hx hb
            go_wp2_with fail
            refine (HM0.out _ HX.out).mono ?_
            rintro e w4 ⟨A1, N1, k1, rfl, hb, hx⟩
            have HX := Lib.hid ((HX.out.trans hx).alloc (.cells #[.int .i64 (mfl x r g 0 0 : Nat), .int .i64 (mfl x r g 0 1 : Nat), .int .i64 (mfl x r g 0 2 : Nat), .int .i64 (mfl x r g 0 3 : Nat), .int .i64 (mfl x r g 0 4 : Nat)] 33))
            have HX3 := Lib.hid ((HX3.out.trans hx).alloc (.cells #[.int .i64 (mfl x r g 0 0 : Nat), .int .i64 (mfl x r g 0 1 : Nat), .int .i64 (mfl x r g 0 2 : Nat), .int .i64 (mfl x r g 0 3 : Nat), .int .i64 (mfl x r g 0 4 : Nat)] 33))
            have HB1 := Lib.hid (hb.ext ((Ext.refl w4).alloc (.cells #[.int .i64 (mfl x r g 0 0 : Nat), .int .i64 (mfl x r g 0 1 : Nat), .int .i64 (mfl x r g 0 2 : Nat), .int .i64 (mfl x r g 0 3 : Nat), .int .i64 (mfl x r g 0 4 : Nat)] 33)))
            have HT0 := Lib.hid ((hx.block _ (Array.getElem?_eq_some_iff.1 HT0.out).1).trans HT0.out)
            have HT0 := Lib.hid ((heap_alloc_old w4 (.cells #[.int .i64 (mfl x r g 0 0 : Nat), .int .i64 (mfl x r g 0 1 : Nat), .int .i64 (mfl x r g 0 2 : Nat), .int .i64 (mfl x r g 0 3 : Nat), .int .i64 (mfl x r g 0 4 : Nat)] 33) (Array.getElem?_eq_some_iff.1 HT0.out).1).trans HT0.out)
            have HT1 := Lib.hid (heap_alloc_new w4 (.cells #[.int .i64 (mfl x r g 0 0 : Nat), .int .i64 (mfl x r g 0 1 : Nat), .int .i64 (mfl x r g 0 2 : Nat), .int .i64 (mfl x r g 0 3 : Nat), .int .i64 (mfl x r g 0 4 : Nat)] 33))
            clear hx hb
            obtain ⟨⟨p0, p1, p2, p3, p4⟩, q0, q1, q2, q3, q4⟩ := five_cells HT0.out
            obtain ⟨⟨_, _, _, y3, _⟩, _⟩ := five_cells HT1.out
            go_wp2_with fail
            refine (same_by A1 A0 (mbl x r g 0) (mbl y r g 1) _ _ _ _ _ HB1.out (HB0.out.ext HX3.out)).mono ?_
            rw [decide_eq_true B3.out]
            rintro e w5 ⟨rfl, hx⟩
            have HX := Lib.hid (HX.out.trans hx)
            have HX3 := Lib.hid (HX3.out.trans hx)
            have HT0 := Lib.hid ((hx.block _ (Array.getElem?_eq_some_iff.1 HT0.out).1).trans HT0.out)
            clear hx p0 p1 p2 p3 p4 q0 q1 q2 q3 q4 y3
            obtain ⟨⟨p0, p1, p2, p3, p4⟩, q0, q1, q2, q3, q4⟩ := five_cells HT0.out
            go_wp2_with fail
            go_ret
            exact ⟨rfl, rout_refl H.out HX.out⟩
          · have hput := heal_put1 hok h0 hc (by rw [hsm, decide_eq_false b3]; simp)
            have hrp : ∀ (V : World) (hV : Ext w V) (A : Option Addr) (n cp : Nat) (hb : By V A n cp (mbl (m.cb g 1) r g 1)), Calls Tryz.prog 69 #[.pointer (some ⟨d, 0, none⟩), .agg #[.int .i64 (mfl (m.cb g 1) r g 1 0 : Nat), .int .i64 (mfl (m.cb g 1) r g 1 1 : Nat), .int .i64 0, .int .i64 (mfl (m.cb g 1) r g 1 3 : Nat), .int .i64 (mfl (m.cb g 1) r g 1 4 : Nat)], .slice A n cp] V fun e w' => e = .returned (.int .i64 (m.heal r g).1) ∧ ROut d p V (m.heal r g).2 w' := fun V hV A n cp hb => by
              have := rput_of (H.out.ext hV) (mfl (m.cb g 1) r g 1 0 : Nat) (mfl (m.cb g 1) r g 1 1 : Nat) 0 (mfl (m.cb g 1) r g 1 3 : Nat) (mfl (m.cb g 1) r g 1 4 : Nat) A n cp _ hb HW.out
              rw [← hput] at this
              exact this
            have HRP := Lib.hid hrp
            clear hput hrp
            generalize m.heal r g = RR at *
            clear hc hce hsm hwh h0 hok hk hfew h
            generalize m.cb g 0 = x at *
            generalize m.cb g 1 = y at *
            have HM0 := Lib.hid hm0
            have HM1 := Lib.hid hm1
            have e1 : ((stM x r g 0 : Int) == 1) = true := by rw [b1]; rfl
            have e2 : ((mfl x r g 0 3 : Int) == (mfl y r g 1 3 : Int)) = true := by rw [b2]; simp
            have B3 := Lib.hid b3
            clear hm0 hm1 b1 b2 b3
            go_enter Tryz.func25, Tryz.ntmps25
            go_wp2_with fail
            refine HL.out.mono ?_
            rintro e w1 ⟨_, _, _, rfl, _, hx⟩
            have HX := Lib.hid hx
            clear hx
            go_wp2_with fail
            refine (HWH.out _ HX.out).mono ?_
            rintro e w2 ⟨rfl, hx⟩
            have HX := Lib.hid (HX.out.trans hx)
            clear hx
            go_wp2_with fail
            refine (HM1.out _ HX.out).mono ?_
            rintro e w3 ⟨A0, N0, k0, rfl, hb, hx⟩
            have HX := Lib.hid (HX.out.trans hx)
            have HB0 := Lib.hid hb
            have HT0 := Lib.hid (heap_alloc_new w3 (.cells #[.int .i64 (mfl y r g 1 0 : Nat), .int .i64 (mfl y r g 1 1 : Nat), .int .i64 (mfl y r g 1 2 : Nat), .int .i64 (mfl y r g 1 3 : Nat), .int .i64 (mfl y r g 1 4 : Nat)] 33))
            have HF0 := Lib.hid HX.out.size
            have HX3 := Lib.hid ((Ext.refl w3).alloc (.cells #[.int .i64 (mfl y r g 1 0 : Nat), .int .i64 (mfl y r g 1 1 : Nat), .int .i64 (mfl y r g 1 2 : Nat), .int .i64 (mfl y r g 1 3 : Nat), .int .i64 (mfl y r g 1 4 : Nat)] 33))
            have HX := Lib.hid (HX.out.alloc (.cells #[.int .i64 (mfl y r g 1 0 : Nat), .int .i64 (mfl y r g 1 1 : Nat), .int .i64 (mfl y r g 1 2 : Nat), .int .i64 (mfl y r g 1 3 : Nat), .int .i64 (mfl y r g 1 4 : Nat)] 33))
            clear hx hb
            go_wp2_with fail
            refine (HM0.out _ HX.out).mono ?_
            rintro e w4 ⟨A1, N1, k1, rfl, hb, hx⟩
            have HX := Lib.hid ((HX.out.trans hx).alloc (.cells #[.int .i64 (mfl x r g 0 0 : Nat), .int .i64 (mfl x r g 0 1 : Nat), .int .i64 (mfl x r g 0 2 : Nat), .int .i64 (mfl x r g 0 3 : Nat), .int .i64 (mfl x r g 0 4 : Nat)] 33))
            have HX3 := Lib.hid ((HX3.out.trans hx).alloc (.cells #[.int .i64 (mfl x r g 0 0 : Nat), .int .i64 (mfl x r g 0 1 : Nat), .int .i64 (mfl x r g 0 2 : Nat), .int .i64 (mfl x r g 0 3 : Nat), .int .i64 (mfl x r g 0 4 : Nat)] 33))
            have HB1 := Lib.hid (hb.ext ((Ext.refl w4).alloc (.cells #[.int .i64 (mfl x r g 0 0 : Nat), .int .i64 (mfl x r g 0 1 : Nat), .int .i64 (mfl x r g 0 2 : Nat), .int .i64 (mfl x r g 0 3 : Nat), .int .i64 (mfl x r g 0 4 : Nat)] 33)))
            have HT0 := Lib.hid ((hx.block _ (Array.getElem?_eq_some_iff.1 HT0.out).1).trans HT0.out)
            have HT0 := Lib.hid ((heap_alloc_old w4 (.cells #[.int .i64 (mfl x r g 0 0 : Nat), .int .i64 (mfl x r g 0 1 : Nat), .int .i64 (mfl x r g 0 2 : Nat), .int .i64 (mfl x r g 0 3 : Nat), .int .i64 (mfl x r g 0 4 : Nat)] 33) (Array.getElem?_eq_some_iff.1 HT0.out).1).trans HT0.out)
            have HT1 := Lib.hid (heap_alloc_new w4 (.cells #[.int .i64 (mfl x r g 0 0 : Nat), .int .i64 (mfl x r g 0 1 : Nat), .int .i64 (mfl x r g 0 2 : Nat), .int .i64 (mfl x r g 0 3 : Nat), .int .i64 (mfl x r g 0 4 : Nat)] 33))
            clear hx hb
            obtain ⟨⟨p0, p1, p2, p3, p4⟩, q0, q1, q2, q3, q4⟩ := five_cells HT0.out
            obtain ⟨⟨_, _, _, y3, _⟩, _⟩ := five_cells HT1.out
            go_wp2_with fail
            refine (same_by A1 A0 (mbl x r g 0) (mbl y r g 1) _ _ _ _ _ HB1.out (HB0.out.ext HX3.out)).mono ?_
            rw [decide_eq_false B3.out]
            rintro e w5 ⟨rfl, hx⟩
            have HX := Lib.hid (HX.out.trans hx)
            have HX3 := Lib.hid (HX3.out.trans hx)
            have HT0 := Lib.hid ((hx.block _ (Array.getElem?_eq_some_iff.1 HT0.out).1).trans HT0.out)
            clear hx p0 p1 p2 p3 p4 q0 q1 q2 q3 q4 y3
            obtain ⟨⟨p0, p1, p2, p3, p4⟩, q0, q1, q2, q3, q4⟩ := five_cells HT0.out
            go_wp2_with fail
            have hX2 : Ext w (w5.setCell ⟨w3.heap.size, 2, none⟩ (.int .i64 0)) := HX.out.setCell (p := ⟨w3.heap.size, 2, none⟩) HF0.out _
            have hX3 : Ext w3 (w5.setCell ⟨w3.heap.size, 2, none⟩ (.int .i64 0)) := HX3.out.setCell (p := ⟨w3.heap.size, 2, none⟩) (Nat.le_refl _) _
            refine (HRP.out _ hX2 A0 N0 k0 (HB0.out.ext hX3)).mono ?_
            rintro e w6 ⟨rfl, ho⟩
            have HO := Lib.hid (ho.from hX2)
            clear ho hX2 hX3
            go_wp2_with fail
            go_ret
            exact ⟨rfl, HO.out⟩
        · have hput := heal_put1 hok h0 hc (by rw [hsm, decide_eq_false b2]; simp)
          have hrp : ∀ (V : World) (hV : Ext w V) (A : Option Addr) (n cp : Nat) (hb : By V A n cp (mbl (m.cb g 1) r g 1)), Calls Tryz.prog 69 #[.pointer (some ⟨d, 0, none⟩), .agg #[.int .i64 (mfl (m.cb g 1) r g 1 0 : Nat), .int .i64 (mfl (m.cb g 1) r g 1 1 : Nat), .int .i64 0, .int .i64 (mfl (m.cb g 1) r g 1 3 : Nat), .int .i64 (mfl (m.cb g 1) r g 1 4 : Nat)], .slice A n cp] V fun e w' => e = .returned (.int .i64 (m.heal r g).1) ∧ ROut d p V (m.heal r g).2 w' := fun V hV A n cp hb => by
            have := rput_of (H.out.ext hV) (mfl (m.cb g 1) r g 1 0 : Nat) (mfl (m.cb g 1) r g 1 1 : Nat) 0 (mfl (m.cb g 1) r g 1 3 : Nat) (mfl (m.cb g 1) r g 1 4 : Nat) A n cp _ hb HW.out
            rw [← hput] at this
            exact this
          have HRP := Lib.hid hrp
          clear hput hrp
          generalize m.heal r g = RR at *
          clear hc hce hsm hwh h0 hok hk hfew h
          generalize m.cb g 0 = x at *
          generalize m.cb g 1 = y at *
          have HM0 := Lib.hid hm0
          have HM1 := Lib.hid hm1
          have e1 : ((stM x r g 0 : Int) == 1) = true := by rw [b1]; rfl
          have e2 : ((mfl x r g 0 3 : Int) == (mfl y r g 1 3 : Int)) = false := by rw [beq_eq_false_iff_ne]; intro h; exact b2 (by omega)
          clear hm0 hm1 b1 b2
          go_enter Tryz.func25, Tryz.ntmps25
          go_wp2_with fail
          refine HL.out.mono ?_
          rintro e w1 ⟨_, _, _, rfl, _, hx⟩
          have HX := Lib.hid hx
          clear hx
          go_wp2_with fail
          refine (HWH.out _ HX.out).mono ?_
          rintro e w2 ⟨rfl, hx⟩
          have HX := Lib.hid (HX.out.trans hx)
          clear hx
          go_wp2_with fail
          refine (HM1.out _ HX.out).mono ?_
          rintro e w3 ⟨A0, N0, k0, rfl, hb, hx⟩
          have HX := Lib.hid (HX.out.trans hx)
          have HB0 := Lib.hid hb
          have HT0 := Lib.hid (heap_alloc_new w3 (.cells #[.int .i64 (mfl y r g 1 0 : Nat), .int .i64 (mfl y r g 1 1 : Nat), .int .i64 (mfl y r g 1 2 : Nat), .int .i64 (mfl y r g 1 3 : Nat), .int .i64 (mfl y r g 1 4 : Nat)] 33))
          have HF0 := Lib.hid HX.out.size
          have HX3 := Lib.hid ((Ext.refl w3).alloc (.cells #[.int .i64 (mfl y r g 1 0 : Nat), .int .i64 (mfl y r g 1 1 : Nat), .int .i64 (mfl y r g 1 2 : Nat), .int .i64 (mfl y r g 1 3 : Nat), .int .i64 (mfl y r g 1 4 : Nat)] 33))
          have HX := Lib.hid (HX.out.alloc (.cells #[.int .i64 (mfl y r g 1 0 : Nat), .int .i64 (mfl y r g 1 1 : Nat), .int .i64 (mfl y r g 1 2 : Nat), .int .i64 (mfl y r g 1 3 : Nat), .int .i64 (mfl y r g 1 4 : Nat)] 33))
          clear hx hb
          go_wp2_with fail
          refine (HM0.out _ HX.out).mono ?_
          rintro e w4 ⟨A1, N1, k1, rfl, hb, hx⟩
          have HX := Lib.hid ((HX.out.trans hx).alloc (.cells #[.int .i64 (mfl x r g 0 0 : Nat), .int .i64 (mfl x r g 0 1 : Nat), .int .i64 (mfl x r g 0 2 : Nat), .int .i64 (mfl x r g 0 3 : Nat), .int .i64 (mfl x r g 0 4 : Nat)] 33))
          have HX3 := Lib.hid ((HX3.out.trans hx).alloc (.cells #[.int .i64 (mfl x r g 0 0 : Nat), .int .i64 (mfl x r g 0 1 : Nat), .int .i64 (mfl x r g 0 2 : Nat), .int .i64 (mfl x r g 0 3 : Nat), .int .i64 (mfl x r g 0 4 : Nat)] 33))
          have HB1 := Lib.hid (hb.ext ((Ext.refl w4).alloc (.cells #[.int .i64 (mfl x r g 0 0 : Nat), .int .i64 (mfl x r g 0 1 : Nat), .int .i64 (mfl x r g 0 2 : Nat), .int .i64 (mfl x r g 0 3 : Nat), .int .i64 (mfl x r g 0 4 : Nat)] 33)))
          have HT0 := Lib.hid ((hx.block _ (Array.getElem?_eq_some_iff.1 HT0.out).1).trans HT0.out)
          have HT0 := Lib.hid ((heap_alloc_old w4 (.cells #[.int .i64 (mfl x r g 0 0 : Nat), .int .i64 (mfl x r g 0 1 : Nat), .int .i64 (mfl x r g 0 2 : Nat), .int .i64 (mfl x r g 0 3 : Nat), .int .i64 (mfl x r g 0 4 : Nat)] 33) (Array.getElem?_eq_some_iff.1 HT0.out).1).trans HT0.out)
          have HT1 := Lib.hid (heap_alloc_new w4 (.cells #[.int .i64 (mfl x r g 0 0 : Nat), .int .i64 (mfl x r g 0 1 : Nat), .int .i64 (mfl x r g 0 2 : Nat), .int .i64 (mfl x r g 0 3 : Nat), .int .i64 (mfl x r g 0 4 : Nat)] 33))
          clear hx hb
          obtain ⟨⟨p0, p1, p2, p3, p4⟩, q0, q1, q2, q3, q4⟩ := five_cells HT0.out
          obtain ⟨⟨_, _, _, y3, _⟩, _⟩ := five_cells HT1.out
          go_wp2_with fail
          have hX2 : Ext w ((w4.alloc (.cells #[.int .i64 (mfl x r g 0 0 : Nat), .int .i64 (mfl x r g 0 1 : Nat), .int .i64 (mfl x r g 0 2 : Nat), .int .i64 (mfl x r g 0 3 : Nat), .int .i64 (mfl x r g 0 4 : Nat)] 33)).setCell ⟨w3.heap.size, 2, none⟩ (.int .i64 0)) := HX.out.setCell (p := ⟨w3.heap.size, 2, none⟩) HF0.out _
          have hX3 : Ext w3 ((w4.alloc (.cells #[.int .i64 (mfl x r g 0 0 : Nat), .int .i64 (mfl x r g 0 1 : Nat), .int .i64 (mfl x r g 0 2 : Nat), .int .i64 (mfl x r g 0 3 : Nat), .int .i64 (mfl x r g 0 4 : Nat)] 33)).setCell ⟨w3.heap.size, 2, none⟩ (.int .i64 0)) := HX3.out.setCell (p := ⟨w3.heap.size, 2, none⟩) (Nat.le_refl _) _
          refine (HRP.out _ hX2 A0 N0 k0 (HB0.out.ext hX3)).mono ?_
          rintro e w6 ⟨rfl, ho⟩
          have HO := Lib.hid (ho.from hX2)
          clear ho hX2 hX3
          go_wp2_with fail
          go_ret
          exact ⟨rfl, HO.out⟩
      · have hput := heal_put1 hok h0 hc (by rw [hsm, decide_eq_false b1]; simp)
        have hrp : ∀ (V : World) (hV : Ext w V) (A : Option Addr) (n cp : Nat) (hb : By V A n cp (mbl (m.cb g 1) r g 1)), Calls Tryz.prog 69 #[.pointer (some ⟨d, 0, none⟩), .agg #[.int .i64 (mfl (m.cb g 1) r g 1 0 : Nat), .int .i64 (mfl (m.cb g 1) r g 1 1 : Nat), .int .i64 0, .int .i64 (mfl (m.cb g 1) r g 1 3 : Nat), .int .i64 (mfl (m.cb g 1) r g 1 4 : Nat)], .slice A n cp] V fun e w' => e = .returned (.int .i64 (m.heal r g).1) ∧ ROut d p V (m.heal r g).2 w' := fun V hV A n cp hb => by
          have := rput_of (H.out.ext hV) (mfl (m.cb g 1) r g 1 0 : Nat) (mfl (m.cb g 1) r g 1 1 : Nat) 0 (mfl (m.cb g 1) r g 1 3 : Nat) (mfl (m.cb g 1) r g 1 4 : Nat) A n cp _ hb HW.out
          rw [← hput] at this
          exact this
        have HRP := Lib.hid hrp
        clear hput hrp
        generalize m.heal r g = RR at *
        clear hc hce hsm hwh h0 hok hk hfew h
        generalize m.cb g 0 = x at *
        generalize m.cb g 1 = y at *
        have HM0 := Lib.hid hm0
        have HM1 := Lib.hid hm1
        have e1 : ((stM x r g 0 : Int) == 1) = false := by rw [beq_eq_false_iff_ne]; intro h; exact b1 (by omega)
        clear hm0 hm1 b1
        go_enter Tryz.func25, Tryz.ntmps25
        go_wp2_with fail
        refine HL.out.mono ?_
        rintro e w1 ⟨_, _, _, rfl, _, hx⟩
        have HX := Lib.hid hx
        clear hx
        go_wp2_with fail
        refine (HWH.out _ HX.out).mono ?_
        rintro e w2 ⟨rfl, hx⟩
        have HX := Lib.hid (HX.out.trans hx)
        clear hx
        go_wp2_with fail
        refine (HM1.out _ HX.out).mono ?_
        rintro e w3 ⟨A0, N0, k0, rfl, hb, hx⟩
        have HX := Lib.hid (HX.out.trans hx)
        have HB0 := Lib.hid hb
        have HT0 := Lib.hid (heap_alloc_new w3 (.cells #[.int .i64 (mfl y r g 1 0 : Nat), .int .i64 (mfl y r g 1 1 : Nat), .int .i64 (mfl y r g 1 2 : Nat), .int .i64 (mfl y r g 1 3 : Nat), .int .i64 (mfl y r g 1 4 : Nat)] 33))
        have HF0 := Lib.hid HX.out.size
        have HX3 := Lib.hid ((Ext.refl w3).alloc (.cells #[.int .i64 (mfl y r g 1 0 : Nat), .int .i64 (mfl y r g 1 1 : Nat), .int .i64 (mfl y r g 1 2 : Nat), .int .i64 (mfl y r g 1 3 : Nat), .int .i64 (mfl y r g 1 4 : Nat)] 33))
        have HX := Lib.hid (HX.out.alloc (.cells #[.int .i64 (mfl y r g 1 0 : Nat), .int .i64 (mfl y r g 1 1 : Nat), .int .i64 (mfl y r g 1 2 : Nat), .int .i64 (mfl y r g 1 3 : Nat), .int .i64 (mfl y r g 1 4 : Nat)] 33))
        clear hx hb
        go_wp2_with fail
        refine (HM0.out _ HX.out).mono ?_
        rintro e w4 ⟨A1, N1, k1, rfl, hb, hx⟩
        have HX := Lib.hid ((HX.out.trans hx).alloc (.cells #[.int .i64 (mfl x r g 0 0 : Nat), .int .i64 (mfl x r g 0 1 : Nat), .int .i64 (mfl x r g 0 2 : Nat), .int .i64 (mfl x r g 0 3 : Nat), .int .i64 (mfl x r g 0 4 : Nat)] 33))
        have HX3 := Lib.hid ((HX3.out.trans hx).alloc (.cells #[.int .i64 (mfl x r g 0 0 : Nat), .int .i64 (mfl x r g 0 1 : Nat), .int .i64 (mfl x r g 0 2 : Nat), .int .i64 (mfl x r g 0 3 : Nat), .int .i64 (mfl x r g 0 4 : Nat)] 33))
        have HB1 := Lib.hid (hb.ext ((Ext.refl w4).alloc (.cells #[.int .i64 (mfl x r g 0 0 : Nat), .int .i64 (mfl x r g 0 1 : Nat), .int .i64 (mfl x r g 0 2 : Nat), .int .i64 (mfl x r g 0 3 : Nat), .int .i64 (mfl x r g 0 4 : Nat)] 33)))
        have HT0 := Lib.hid ((hx.block _ (Array.getElem?_eq_some_iff.1 HT0.out).1).trans HT0.out)
        have HT0 := Lib.hid ((heap_alloc_old w4 (.cells #[.int .i64 (mfl x r g 0 0 : Nat), .int .i64 (mfl x r g 0 1 : Nat), .int .i64 (mfl x r g 0 2 : Nat), .int .i64 (mfl x r g 0 3 : Nat), .int .i64 (mfl x r g 0 4 : Nat)] 33) (Array.getElem?_eq_some_iff.1 HT0.out).1).trans HT0.out)
        have HT1 := Lib.hid (heap_alloc_new w4 (.cells #[.int .i64 (mfl x r g 0 0 : Nat), .int .i64 (mfl x r g 0 1 : Nat), .int .i64 (mfl x r g 0 2 : Nat), .int .i64 (mfl x r g 0 3 : Nat), .int .i64 (mfl x r g 0 4 : Nat)] 33))
        clear hx hb
        obtain ⟨⟨p0, p1, p2, p3, p4⟩, q0, q1, q2, q3, q4⟩ := five_cells HT0.out
        obtain ⟨⟨_, _, _, y3, _⟩, _⟩ := five_cells HT1.out
        go_wp2_with fail
        have hX2 : Ext w ((w4.alloc (.cells #[.int .i64 (mfl x r g 0 0 : Nat), .int .i64 (mfl x r g 0 1 : Nat), .int .i64 (mfl x r g 0 2 : Nat), .int .i64 (mfl x r g 0 3 : Nat), .int .i64 (mfl x r g 0 4 : Nat)] 33)).setCell ⟨w3.heap.size, 2, none⟩ (.int .i64 0)) := HX.out.setCell (p := ⟨w3.heap.size, 2, none⟩) HF0.out _
        have hX3 : Ext w3 ((w4.alloc (.cells #[.int .i64 (mfl x r g 0 0 : Nat), .int .i64 (mfl x r g 0 1 : Nat), .int .i64 (mfl x r g 0 2 : Nat), .int .i64 (mfl x r g 0 3 : Nat), .int .i64 (mfl x r g 0 4 : Nat)] 33)).setCell ⟨w3.heap.size, 2, none⟩ (.int .i64 0)) := HX3.out.setCell (p := ⟨w3.heap.size, 2, none⟩) (Nat.le_refl _) _
        refine (HRP.out _ hX2 A0 N0 k0 (HB0.out.ext hX3)).mono ?_
        rintro e w6 ⟨rfl, ho⟩
        have HO := Lib.hid (ho.from hX2)
        clear ho hX2 hX3
        go_wp2_with fail
        go_ret
        exact ⟨rfl, HO.out⟩
    · have HQ := Lib.hid (heal_same h0 (.inl hc))
      rw [HQ.out]
      rw [hc] at hwh
      generalize cellE r g (m.cb g 0) (m.cb g 1) = E at *
      have HWH := Lib.hid hwh
      rw [h0] at HL
      clear h hm0 hm1 hwh hfew hk hok hc h0 HQ
      go_enter Tryz.func25, Tryz.ntmps25
      go_wp2_with fail
      refine HL.out.mono ?_
      rintro e w1 ⟨_, _, _, rfl, _, hx⟩
      have HX := Lib.hid hx
      clear hx
      go_wp2_with fail
      refine (HWH.out _ HX.out).mono ?_
      rintro e w2 ⟨rfl, hx⟩
      have HX := Lib.hid (HX.out.trans hx)
      clear hx
      go_wp2_with fail
      go_ret
      exact ⟨rfl, rout_refl H.out HX.out⟩
  · have HQ := Lib.hid (heal_err rfl h0)
    rw [HQ.out]
    generalize m.loadE r g = E at *
    have hne : (E != 0) = true := by simpa using h0
    clear h hm0 hm1 hwh hfew hk hok h0 HQ
    go_enter Tryz.func25, Tryz.ntmps25
    go_wp2_with fail
    refine HL.out.mono ?_
    rintro e w1 ⟨_, _, _, rfl, _, hx⟩
    have HX := Lib.hid hx
    clear hx
    go_wp2_with fail
    go_ret
    exact ⟨rfl, rout_refl H.out HX.out⟩
end Go.Proofs.YtlikhmhomkiadaaGreatDoor
