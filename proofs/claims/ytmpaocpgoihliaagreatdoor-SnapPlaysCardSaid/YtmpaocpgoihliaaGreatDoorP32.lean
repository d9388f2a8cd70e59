/-
  The document's Store over the document's disk.
-/
import Derived.Test.YtmpaocpgoihliaaGreatDoorP00
import Derived.Test.YtmpaocpgoihliaaGreatDoorP28
import Derived.Test.YtmpaocpgoihliaaGreatDoorP31
import Derived.IntWalk
namespace Go.Proofs.YtmpaocpgoihliaaGreatDoor
set_option maxRecDepth 100000
section
open Go Go.RowKit
theorem By.modR {p : Nat → Nat} {w w' : World} {A : Option Addr} {n cp : Nat} {l : List Nat} (h : By w A n cp l) (k : Mod (fun k => p k ≠ 0) w w') (ho : ∀ g o, A = some ⟨g, o, none⟩ → 0 < n → p g = 0) : By w' A n cp l := by
 refine ⟨h.len, h.cap, h.most, ⟨h.rd.1, fun hn => ?_⟩, Bs.nil_ h⟩
 obtain ⟨g, o, e, hg, hc⟩ := h.rd.2 hn
 refine ⟨g, o, e, Nat.lt_of_lt_of_le hg k.size, fun j x hx => ?_⟩
 rw [← hc j x hx]
 exact World.cell?_of_block (a := ⟨g, o + j, none⟩) (k.block g hg (by have := ho g o e (by have := h.len; omega); simp [this]))
theorem By.modG {F : Nat → Prop} {w w' : World} {A : Option Addr} {n cp : Nat} {l : List Nat} (h : By w A n cp l) (k : Mod F w w') (ho : ∀ g o, A = some ⟨g, o, none⟩ → 0 < n → ¬ F g) : By w' A n cp l := by
 refine ⟨h.len, h.cap, h.most, ⟨h.rd.1, fun hn => ?_⟩, Bs.nil_ h⟩
 obtain ⟨g, o, e, hg, hc⟩ := h.rd.2 hn
 refine ⟨g, o, e, Nat.lt_of_lt_of_le hg k.size, fun j x hx => ?_⟩
 rw [← hc j x hx]
 exact World.cell?_of_block (k.block g hg (ho g o e (by have := h.len; omega)))
theorem loadV_le {m : DM} (h : m.Ok) (r g : Int) : m.loadV r g ≤ 1099511627776 := by
 unfold DM.loadV
 split
 ·unfold cellF
  split
  ·rename_i ha
   have := (mayB_iff.1 (mine_copy (x := m.cb g 0) (p := 0) (read_sect h _) (atC_zero ha)).2.2.2.1)
   omega
  ·split
   ·rename_i ha
    have := (mayB_iff.1 (mine_copy (x := m.cb g 1) (p := 1) (read_sect h _) (atC_one ha)).2.2.2.1)
    omega
   ·omega
 ·omega
theorem rputC_waits (m : DM) (s : Int) (L : List Nat) : (m.putC s L).2.waits.length ≤ m.waits.length + 1 := by
 have hw : (m.write s L).2.waits.length ≤ m.waits.length + 1 := by
  unfold DM.write
  (repeat' split) <;> simp
 unfold DM.putC
 split
 ·exact hw
 ·refine Nat.le_trans ?_ hw
  generalize (m.write s L).2 = m1
  unfold DM.flush
  (repeat' split) <;> simp
theorem rstore_no {w : World} {d : Nat} {p : Nat → Nat} {m : DM} (h : RD w d p m) (r g c : Int) (A : Option Addr) (n cp : Nat) (hk : knownC m.size r g ≠ 0) :
 Calls Tryz.prog 84 #[.pointer (some ⟨d, 0, none⟩), .int .i64 r, .int .i64 g, .int .i64 c, .slice A n cp] w fun e w' => e = .returned (.int .i64 2) ∧ w = w' := by
 have ha := rask_of h r g
 rw [(askC_no (rd_size h).1 hk).1] at ha
 have HA := Lib.hid ha
 clear h hk ha
 go_enter Tryz.func84, Tryz.ntmps84
 go_wp2_with fail
 refine HA.out.mono ?_
 rintro e w1 ⟨rfl, rfl⟩
 go_wp2_with fail
 go_ret
 exact ⟨rfl, rfl⟩
theorem store_err {m : DM} {r g c E : Int} {b : List Nat} (h : m.storeE r g c b.length = E) (h0 : E ≠ 0) : m.store r g c b = (E, m) := by
 unfold DM.store
 rw [if_pos (by rw [h]; exact h0), h]
theorem store_one {m m1 : DM} {r g P E1 : Int} {cn : Nat} {b : List Nat} (h : m.storeE r g (cn : Int) b.length = 0) (hP : firstP r g (m.cb g 0) (m.cb g 1) = P) (h1 : m.putC (firstS g P) (sealC r g P (m.loadV r g + 1) cn b) = (E1, m1)) (h0 : E1 ≠ 0) : m.store r g (cn : Int) b = (E1, m1) := by
 unfold DM.store DM.puts2
 rw [if_neg (by rw [h]; simp), hP, Int.toNat_natCast, h1]
 simp [h0]
theorem store_two {m m1 m2 : DM} {r g P E2 : Int} {cn : Nat} {b : List Nat} (h : m.storeE r g (cn : Int) b.length = 0) (hP : firstP r g (m.cb g 0) (m.cb g 1) = P) (h1 : m.putC (firstS g P) (sealC r g P (m.loadV r g + 1) cn b) = (0, m1)) (h2 : m1.putC (firstS g (1 - P)) (sealC r g (1 - P) (m.loadV r g + 1) cn b) = (E2, m2)) : m.store r g (cn : Int) b = (E2, m2) := by
 unfold DM.store DM.puts2
 rw [if_neg (by rw [h]; simp), hP, Int.toNat_natCast, h1]
 simp only [ne_eq, not_true_eq_false, if_false]
 exact h2
set_option maxHeartbeats 1600000 in
theorem rstore_of {w : World} {d : Nat} {p : Nat → Nat} {m : DM} (h : RD w d p m) (r g c : Int) (A : Option Addr) (n cp : Nat) (body : List Nat) (hb : By w A n cp body) (ho : ∀ g o, A = some ⟨g, o, none⟩ → 0 < n → p g = 0) (hfew : m.waits.length + 2 ≤ 1000000) (hk : knownC m.size r g = 0) :
 Calls Tryz.prog 84 #[.pointer (some ⟨d, 0, none⟩), .int .i64 r, .int .i64 g, .int .i64 c, .slice A n cp] w fun e w' => e = .returned (.int .i64 (m.store r g c body).1) ∧ ROut d p w (m.store r g c body).2 w' := by
 have ha := rask_of h r g
 rw [askC_yes hk] at ha
 have HA := Lib.hid ha
 have H := Lib.hid h
 have hlen := hb.len
 have hcap := hb.cap
 have hmost := hb.most
 have HSE : Hid (m.storeE r g c body.length = if c < 1 ∨ 1099511627776 < c then 2 else if 43 < n then 3 else if m.loadE r g ≠ 0 then m.loadE r g else if m.loadV r g = 1099511627776 then 4 else 0) := Lib.hid (by rw [hlen]; rfl)
 have HL := Lib.hid (rload_of h r g (by omega) hk)
 clear ha
 by_cases h1 : c < 1
 ·have HQ := Lib.hid (store_err (b := body) (by rw [HSE.out, if_pos (.inl h1)]) (by omega) : m.store r g c body = (2, m))
  rw [HQ.out]
  clear h hb ho hfew hk hlen HSE HQ
  go_enter Tryz.func84, Tryz.ntmps84
  go_wp2_with fail
  refine HA.out.mono ?_
  rintro e w1 ⟨rfl, rfl⟩
  go_wp2_with fail
  go_ret
  exact ⟨rfl, rout_refl H.out (Ext.refl _)⟩
 ·by_cases h2 : 1099511627776 < c
  ·have HQ := Lib.hid (store_err (b := body) (by rw [HSE.out, if_pos (.inr h2)]) (by omega) : m.store r g c body = (2, m))
   rw [HQ.out]
   clear h hb ho hfew hk hlen HSE HQ
   go_enter Tryz.func84, Tryz.ntmps84
   go_wp2_with fail
   refine HA.out.mono ?_
   rintro e w1 ⟨rfl, rfl⟩
   go_wp2_with fail
   go_ret
   exact ⟨rfl, rout_refl H.out (Ext.refl _)⟩
  ·by_cases h3 : 43 < n
   ·have HQ := Lib.hid (store_err (b := body) (by rw [HSE.out, if_neg (by omega), if_pos h3]) (by omega) : m.store r g c body = (3, m))
    rw [HQ.out]
    clear h hb ho hfew hk hlen HSE HQ
    go_enter Tryz.func84, Tryz.ntmps84
    go_wp2_with fail
    refine HA.out.mono ?_
    rintro e w1 ⟨rfl, rfl⟩
    go_wp2_with fail
    go_ret
    exact ⟨rfl, rout_refl H.out (Ext.refl _)⟩
   ·by_cases h4 : m.loadE r g ≠ 0
    ·obtain ⟨E, hE⟩ : ∃ E, m.loadE r g = E := ⟨_, rfl⟩
     rw [hE] at h4 HL HSE
     have HQ := Lib.hid (store_err (b := body) (by rw [HSE.out, if_neg (by omega), if_neg h3, if_pos h4]) (by exact h4) : m.store r g c body = (E, m))
     rw [HQ.out]
     have hne : (E != 0) = true := by simpa using h4
     clear h hb ho hfew hk hlen HSE HQ hE h4
     go_enter Tryz.func84, Tryz.ntmps84
     go_wp2_with fail
     refine HA.out.mono ?_
     rintro e w1 ⟨rfl, rfl⟩
     go_wp2_with fail
     refine HL.out.mono ?_
     rintro e w2 ⟨A2, N2, k2, rfl, _, hx⟩
     have HX := Lib.hid hx
     clear hx
     go_wp2_with fail
     go_ret
     exact ⟨rfl, rout_refl H.out HX.out⟩
    ·by_cases h5 : m.loadV r g = 1099511627776
     ·have HQ := Lib.hid (store_err (b := body) (by rw [HSE.out, if_neg (by omega), if_neg h3, if_neg (by simpa using h4), if_pos h5]) (by omega) : m.store r g c body = (4, m))
      rw [HQ.out]
      have h4 : m.loadE r g = 0 := by simpa using h4
      rw [h4, h5] at HL
      clear h hb ho hfew hk hlen HSE HQ h4 h5
      go_enter Tryz.func84, Tryz.ntmps84
      go_wp2_with fail
      refine HA.out.mono ?_
      rintro e w1 ⟨rfl, rfl⟩
      go_wp2_with fail
      refine HL.out.mono ?_
      rintro e w2 ⟨A2, N2, k2, rfl, _, hx⟩
      have HX := Lib.hid hx
      clear hx
      go_wp2_with fail
      go_ret
      exact ⟨rfl, rout_refl H.out HX.out⟩
     ·have h4 : m.loadE r g = 0 := by simpa using h4
      obtain ⟨cn, rfl⟩ := Int.eq_ofNat_of_zero_le (show 0 ≤ c by omega)
      have hse : m.storeE r g (cn : Int) body.length = 0 := by rw [HSE.out, if_neg (by omega), if_neg h3, if_neg (by simpa using h4), if_neg h5]
      have hwh := fun V (hx : Ext w V) => rwhich_of (h.ext hx) r g (by omega)
      obtain ⟨vI, hvI⟩ : ∃ vI : Int, (m.loadV r g : Int) = vI := ⟨_, rfl⟩
      have hge : ¬ (1099511627776 : Int) ≤ vI := by have := loadV_le (rd_size h).2.2 r g; omega
      have hvw : IntKind.i64.wrap (vI + 1) = vI + 1 := IntWalk.i64_in _ (by have := loadV_le (rd_size h).2.2 r g; omega)
      have hp := fun (P : Int) (V : World) (hV : Ext w V) => rput_of (h.ext hV) r g P (vI + 1) (cn : Int) A n cp body (hb.ext hV) (by omega)
      have hcc : cellE r g (m.cb g 0) (m.cb g 1) = 0 := by have := h4; unfold DM.loadE at this; split at this <;> first | (cases this; done) | exact this
      rw [hcc] at hwh
      rw [h4, hvI] at HL
      have HB := Lib.hid hb
      have HO := Lib.hid ho
      have HF := Lib.hid hfew
      clear hcc h5
      by_cases h6 : atC r g (m.cb g 0) (m.cb g 1) = 0
      ·have hP : firstP r g (m.cb g 0) (m.cb g 1) = 1 := by unfold firstP; rw [if_pos h6]
       rw [h6] at hwh
       have HWH := Lib.hid hwh
       obtain ⟨E1, hE1⟩ : ∃ E1, (m.putC (firstS g 1) (sealC r g 1 (m.loadV r g + 1) cn body)).1 = E1 := ⟨_, rfl⟩
       obtain ⟨m1, hm1⟩ : ∃ m1, (m.putC (firstS g 1) (sealC r g 1 (m.loadV r g + 1) cn body)).2 = m1 := ⟨_, rfl⟩
       have heq : m.putC (firstS g 1) (sealC r g 1 (m.loadV r g + 1) cn body) = (E1, m1) := by rw [← hE1, ← hm1]
       have hp1 := hp 1
       rw [show sealL r g 1 (vI + 1) (cn : Int) body 1 = sealC r g 1 (m.loadV r g + 1) cn body by rw [← hvI]; rfl, heq] at hp1
       have HP1 := Lib.hid hp1
       by_cases h7 : E1 = 0
       ·subst h7
        have hp2 := fun (V2 : World) (pp : Nat → Nat) (hr : RD V2 d pp m1) (hb2 : By V2 A n cp body) => rput_of hr r g (1 - 1) (vI + 1) (cn : Int) A n cp body hb2
        rw [show sealL r g (1 - 1) (vI + 1) (cn : Int) body 1 = sealC r g (1 - 1) (m.loadV r g + 1) cn body by rw [← hvI]; rfl] at hp2
        have hwt : m1.waits.length + 1 ≤ 1000000 := by
         have := rputC_waits m (firstS g 1) (sealC r g 1 (m.loadV r g + 1) cn body)
         rw [heq] at this
         have h9 : m1.waits.length ≤ m.waits.length + 1 := this
         have := HF.out
         omega
        obtain ⟨E2, hE2⟩ : ∃ E2, (m1.putC (firstS g (1 - 1)) (sealC r g (1 - 1) (m.loadV r g + 1) cn body)).1 = E2 := ⟨_, rfl⟩
        obtain ⟨m2, hm2⟩ : ∃ m2, (m1.putC (firstS g (1 - 1)) (sealC r g (1 - 1) (m.loadV r g + 1) cn body)).2 = m2 := ⟨_, rfl⟩
        have heq2 : m1.putC (firstS g (1 - 1)) (sealC r g (1 - 1) (m.loadV r g + 1) cn body) = (E2, m2) := by rw [← hE2, ← hm2]
        rw [heq2] at hp2
        have HP2 : Hid (∀ (V2 : World) (pp : Nat → Nat) (hr : RD V2 d pp m1) (hb2 : By V2 A n cp body), _) := Lib.hid fun V2 pp hr hb2 => hp2 V2 pp hr hb2 hwt
        have HQ := Lib.hid (store_two hse hP heq heq2)
        rw [HQ.out]
        clear h hb ho hfew hk hlen HSE HQ hse h4 hwh hp hp1 hp2 hwt h6 hE1 hm1 hE2 hm2 heq heq2 hP
        clear hvI
        go_enter Tryz.func84, Tryz.ntmps84
        go_wp2_with fail
        refine HA.out.mono ?_
        rintro e w1 ⟨rfl, rfl⟩
        go_wp2_with fail
        refine HL.out.mono ?_
        rintro e w2 ⟨A2, N2, k2, rfl, _, hx⟩
        have HX := Lib.hid hx
        clear hx
        go_wp2_with fail
        refine (HWH.out _ HX.out).mono ?_
        rintro e w3 ⟨rfl, hx⟩
        have HF0 := Lib.hid (HX.out.trans hx).size
        have HT := Lib.hid (heap_alloc_new w3 (.cells #[.int .i64 r, .int .i64 g, .int .i64 0, .int .i64 (vI + 1), .int .i64 (cn : Int)] 44))
        have HX2 := Lib.hid ((HX.out.trans hx).alloc (.cells #[.int .i64 r, .int .i64 g, .int .i64 1, .int .i64 (vI + 1), .int .i64 (cn : Int)] 44))
        have HT2 := Lib.hid (heap_alloc_new w3 (.cells #[.int .i64 r, .int .i64 g, .int .i64 1, .int .i64 (vI + 1), .int .i64 (cn : Int)] 44))
        have HX := Lib.hid ((HX.out.trans hx).alloc (.cells #[.int .i64 r, .int .i64 g, .int .i64 0, .int .i64 (vI + 1), .int .i64 (cn : Int)] 44))
        clear hx
        obtain ⟨⟨p0, p1, p2, p3, p4⟩, q0, q1, q2, q3, q4⟩ := five_cells HT.out
        go_wp2_with fail
        refine (HP1.out _ HX2.out).mono ?_
        rintro e w4 ⟨rfl, ho4⟩
        obtain ⟨pp, r4, hm4, hn4⟩ := ho4
        have HR4 := Lib.hid r4
        have HM4 := Lib.hid hm4
        have HN4 := Lib.hid hn4
        have HT4 := Lib.hid (heap_mod HT2.out hm4 (by intro hp; have := H.out.2 _ hp; have := HF0.out; omega))
        have HB4 := Lib.hid ((HB.out.ext HX2.out).modR hm4 HO.out)
        have HNW : Hid (∀ i, pp i ≠ 0 → i = w3.heap.size → False) := Lib.hid (by
         intro i hi he
         subst he
         rcases r4.1 with ⟨qq, hq⟩
         rcases hn4 _ hi with h | h
         ·have h1 := H.out.2 _ h
          have h2 := HF0.out
          omega
         ·have h1 := (Array.getElem?_eq_some_iff.1 HT2.out).1
          omega)
        clear r4 hm4 hn4
        clear p0 p1 p2 p3 p4 q0 q1 q2 q3 q4
        obtain ⟨⟨p0, p1, p2, p3, p4⟩, q0, q1, q2, q3, q4⟩ := five_cells HT4.out
        go_wp2_with fail
        have hr5 : RD (w4.setCell ⟨w3.heap.size, 2, none⟩ (.int .i64 0)) d pp m1 := HR4.out.mod (F := fun k => k = w3.heap.size) (mod_one _ _ _ _) (fun i hi he => HNW.out i hi he)
        have hb5 : By (w4.setCell ⟨w3.heap.size, 2, none⟩ (.int .i64 0)) A n cp body := HB4.out.modG (F := fun k => k = w3.heap.size) (mod_one _ _ _ _) (fun gg o e hn he => by
         subst he
         have h9 := HB.out.rd.2 (by have := HB.out.len; omega)
         obtain ⟨g9, o9, e9, h9, _⟩ := h9
         rw [e] at e9
         injection e9 with e9
         injection e9 with e9 _
         have := HF0.out
         omega)
        refine (HP2.out _ pp hr5 hb5).mono ?_
        rintro e w5 ⟨rfl, ho5⟩
        have HO5 : Hid (ROut d p w m2 w5) := Lib.hid (rout_trans (p1 := pp) (((Mod.of_ext HX2.out).trans HM4.out (fun i hi => .inl hi)).trans (mod_one _ w3.heap.size 2 (.int .i64 0)) (fun i hi => .inr (by rw [hi]; exact HF0.out))) (fun k hk => (HN4.out k hk).imp id (fun h => Nat.le_trans HX2.out.size h)) ho5)
        clear ho5 hr5 hb5
        go_wp2_with fail
        go_ret
        exact ⟨rfl, HO5.out⟩
       ·have hne : (E1 != 0) = true := by simpa using h7
        have HQ := Lib.hid (store_one hse hP heq h7)
        rw [HQ.out]
        clear h hb ho hfew hk hlen HSE HQ hse h4 hwh hp hp1 h6 hE1 hm1 heq hP h7
        clear hvI
        go_enter Tryz.func84, Tryz.ntmps84
        go_wp2_with fail
        refine HA.out.mono ?_
        rintro e w1 ⟨rfl, rfl⟩
        go_wp2_with fail
        refine HL.out.mono ?_
        rintro e w2 ⟨A2, N2, k2, rfl, _, hx⟩
        have HX := Lib.hid hx
        clear hx
        go_wp2_with fail
        refine (HWH.out _ HX.out).mono ?_
        rintro e w3 ⟨rfl, hx⟩
        have HF0 := Lib.hid (HX.out.trans hx).size
        have HT := Lib.hid (heap_alloc_new w3 (.cells #[.int .i64 r, .int .i64 g, .int .i64 0, .int .i64 (vI + 1), .int .i64 (cn : Int)] 44))
        have HX2 := Lib.hid ((HX.out.trans hx).alloc (.cells #[.int .i64 r, .int .i64 g, .int .i64 1, .int .i64 (vI + 1), .int .i64 (cn : Int)] 44))
        have HT2 := Lib.hid (heap_alloc_new w3 (.cells #[.int .i64 r, .int .i64 g, .int .i64 1, .int .i64 (vI + 1), .int .i64 (cn : Int)] 44))
        have HX := Lib.hid ((HX.out.trans hx).alloc (.cells #[.int .i64 r, .int .i64 g, .int .i64 0, .int .i64 (vI + 1), .int .i64 (cn : Int)] 44))
        clear hx
        obtain ⟨⟨p0, p1, p2, p3, p4⟩, q0, q1, q2, q3, q4⟩ := five_cells HT.out
        go_wp2_with fail
        refine (HP1.out _ HX2.out).mono ?_
        rintro e w4 ⟨rfl, ho4⟩
        have HO4 := Lib.hid (ho4.from HX2.out)
        clear ho4
        go_wp2_with fail
        go_ret
        exact ⟨rfl, HO4.out⟩
      ·have hP : firstP r g (m.cb g 0) (m.cb g 1) = 0 := by unfold firstP; rw [if_neg h6]
       have hic : (atC r g (m.cb g 0) (m.cb g 1) == 0) = false := by simpa using h6
       generalize atC r g (m.cb g 0) (m.cb g 1) = ic at hwh hic
       have HWH := Lib.hid hwh
       obtain ⟨E1, hE1⟩ : ∃ E1, (m.putC (firstS g 0) (sealC r g 0 (m.loadV r g + 1) cn body)).1 = E1 := ⟨_, rfl⟩
       obtain ⟨m1, hm1⟩ : ∃ m1, (m.putC (firstS g 0) (sealC r g 0 (m.loadV r g + 1) cn body)).2 = m1 := ⟨_, rfl⟩
       have heq : m.putC (firstS g 0) (sealC r g 0 (m.loadV r g + 1) cn body) = (E1, m1) := by rw [← hE1, ← hm1]
       have hp1 := hp 0
       rw [show sealL r g 0 (vI + 1) (cn : Int) body 1 = sealC r g 0 (m.loadV r g + 1) cn body by rw [← hvI]; rfl, heq] at hp1
       have HP1 := Lib.hid hp1
       by_cases h7 : E1 = 0
       ·subst h7
        have hp2 := fun (V2 : World) (pp : Nat → Nat) (hr : RD V2 d pp m1) (hb2 : By V2 A n cp body) => rput_of hr r g (1 - 0) (vI + 1) (cn : Int) A n cp body hb2
        rw [show sealL r g (1 - 0) (vI + 1) (cn : Int) body 1 = sealC r g (1 - 0) (m.loadV r g + 1) cn body by rw [← hvI]; rfl] at hp2
        have hwt : m1.waits.length + 1 ≤ 1000000 := by
         have := rputC_waits m (firstS g 0) (sealC r g 0 (m.loadV r g + 1) cn body)
         rw [heq] at this
         have h9 : m1.waits.length ≤ m.waits.length + 1 := this
         have := HF.out
         omega
        obtain ⟨E2, hE2⟩ : ∃ E2, (m1.putC (firstS g (1 - 0)) (sealC r g (1 - 0) (m.loadV r g + 1) cn body)).1 = E2 := ⟨_, rfl⟩
        obtain ⟨m2, hm2⟩ : ∃ m2, (m1.putC (firstS g (1 - 0)) (sealC r g (1 - 0) (m.loadV r g + 1) cn body)).2 = m2 := ⟨_, rfl⟩
        have heq2 : m1.putC (firstS g (1 - 0)) (sealC r g (1 - 0) (m.loadV r g + 1) cn body) = (E2, m2) := by rw [← hE2, ← hm2]
        rw [heq2] at hp2
        have HP2 : Hid (∀ (V2 : World) (pp : Nat → Nat) (hr : RD V2 d pp m1) (hb2 : By V2 A n cp body), _) := Lib.hid fun V2 pp hr hb2 => hp2 V2 pp hr hb2 hwt
        have HQ := Lib.hid (store_two hse hP heq heq2)
        rw [HQ.out]
        clear h hb ho hfew hk hlen HSE HQ hse h4 hwh hp hp1 hp2 hwt h6 hE1 hm1 hE2 hm2 heq heq2 hP
        clear hvI
        go_enter Tryz.func84, Tryz.ntmps84
        go_wp2_with fail
        refine HA.out.mono ?_
        rintro e w1 ⟨rfl, rfl⟩
        go_wp2_with fail
        refine HL.out.mono ?_
        rintro e w2 ⟨A2, N2, k2, rfl, _, hx⟩
        have HX := Lib.hid hx
        clear hx
        go_wp2_with fail
        refine (HWH.out _ HX.out).mono ?_
        rintro e w3 ⟨rfl, hx⟩
        have HF0 := Lib.hid (HX.out.trans hx).size
        have HT := Lib.hid (heap_alloc_new w3 (.cells #[.int .i64 r, .int .i64 g, .int .i64 0, .int .i64 (vI + 1), .int .i64 (cn : Int)] 44))
        have HX := Lib.hid ((HX.out.trans hx).alloc (.cells #[.int .i64 r, .int .i64 g, .int .i64 0, .int .i64 (vI + 1), .int .i64 (cn : Int)] 44))
        clear hx
        obtain ⟨⟨p0, p1, p2, p3, p4⟩, q0, q1, q2, q3, q4⟩ := five_cells HT.out
        go_wp2_with fail
        have HX2 := HX
        have HT2 := HT
        refine (HP1.out _ HX2.out).mono ?_
        rintro e w4 ⟨rfl, ho4⟩
        obtain ⟨pp, r4, hm4, hn4⟩ := ho4
        have HR4 := Lib.hid r4
        have HM4 := Lib.hid hm4
        have HN4 := Lib.hid hn4
        have HT4 := Lib.hid (heap_mod HT2.out hm4 (by intro hp; have := H.out.2 _ hp; have := HF0.out; omega))
        have HB4 := Lib.hid ((HB.out.ext HX2.out).modR hm4 HO.out)
        have HNW : Hid (∀ i, pp i ≠ 0 → i = w3.heap.size → False) := Lib.hid (by
         intro i hi he
         subst he
         rcases r4.1 with ⟨qq, hq⟩
         rcases hn4 _ hi with h | h
         ·have h1 := H.out.2 _ h
          have h2 := HF0.out
          omega
         ·have h1 := (Array.getElem?_eq_some_iff.1 HT2.out).1
          omega)
        clear r4 hm4 hn4
        clear p0 p1 p2 p3 p4 q0 q1 q2 q3 q4
        obtain ⟨⟨p0, p1, p2, p3, p4⟩, q0, q1, q2, q3, q4⟩ := five_cells HT4.out
        go_wp2_with fail
        have hr5 : RD (w4.setCell ⟨w3.heap.size, 2, none⟩ (.int .i64 1)) d pp m1 := HR4.out.mod (F := fun k => k = w3.heap.size) (mod_one _ _ _ _) (fun i hi he => HNW.out i hi he)
        have hb5 : By (w4.setCell ⟨w3.heap.size, 2, none⟩ (.int .i64 1)) A n cp body := HB4.out.modG (F := fun k => k = w3.heap.size) (mod_one _ _ _ _) (fun gg o e hn he => by
         subst he
         have h9 := HB.out.rd.2 (by have := HB.out.len; omega)
         obtain ⟨g9, o9, e9, h9, _⟩ := h9
         rw [e] at e9
         injection e9 with e9
         injection e9 with e9 _
         have := HF0.out
         omega)
        refine (HP2.out _ pp hr5 hb5).mono ?_
        rintro e w5 ⟨rfl, ho5⟩
        have HO5 : Hid (ROut d p w m2 w5) := Lib.hid (rout_trans (p1 := pp) (((Mod.of_ext HX2.out).trans HM4.out (fun i hi => .inl hi)).trans (mod_one _ w3.heap.size 2 (.int .i64 1)) (fun i hi => .inr (by rw [hi]; exact HF0.out))) (fun k hk => (HN4.out k hk).imp id (fun h => Nat.le_trans HX2.out.size h)) ho5)
        clear ho5 hr5 hb5
        go_wp2_with fail
        go_ret
        exact ⟨rfl, HO5.out⟩
       ·have hne : (E1 != 0) = true := by simpa using h7
        have HQ := Lib.hid (store_one hse hP heq h7)
        rw [HQ.out]
        clear h hb ho hfew hk hlen HSE HQ hse h4 hwh hp hp1 h6 hE1 hm1 heq hP h7
        clear hvI
        go_enter Tryz.func84, Tryz.ntmps84
        go_wp2_with fail
        refine HA.out.mono ?_
        rintro e w1 ⟨rfl, rfl⟩
        go_wp2_with fail
        refine HL.out.mono ?_
        rintro e w2 ⟨A2, N2, k2, rfl, _, hx⟩
        have HX := Lib.hid hx
        clear hx
        go_wp2_with fail
        refine (HWH.out _ HX.out).mono ?_
        rintro e w3 ⟨rfl, hx⟩
        have HF0 := Lib.hid (HX.out.trans hx).size
        have HT := Lib.hid (heap_alloc_new w3 (.cells #[.int .i64 r, .int .i64 g, .int .i64 0, .int .i64 (vI + 1), .int .i64 (cn : Int)] 44))
        have HX := Lib.hid ((HX.out.trans hx).alloc (.cells #[.int .i64 r, .int .i64 g, .int .i64 0, .int .i64 (vI + 1), .int .i64 (cn : Int)] 44))
        clear hx
        obtain ⟨⟨p0, p1, p2, p3, p4⟩, q0, q1, q2, q3, q4⟩ := five_cells HT.out
        go_wp2_with fail
        have HX2 := HX
        have HT2 := HT
        refine (HP1.out _ HX2.out).mono ?_
        rintro e w4 ⟨rfl, ho4⟩
        have HO4 := Lib.hid (ho4.from HX2.out)
        clear ho4
        go_wp2_with fail
        go_ret
        exact ⟨rfl, HO4.out⟩
end
section
open Go Go.RowKit
structure RQ (w w' : World) (d : Nat) (p p' : Nat → Nat) (m : DM) : Prop where
 rd : RD w' d p' m
 mod : Mod (fun k => p k ≠ 0) w w'
 sub : ∀ k, p' k ≠ 0 → p k ≠ 0 ∨ w.heap.size ≤ k
section
variable {w w1 w2 : World} {d : Nat} {p p1 : Nat → Nat} {m m2 : DM}
theorem RQ.start (h : RD w d p m) : RQ w w d p p m := ⟨h, Mod.refl _ _, fun _ h => .inl h⟩
theorem RQ.ext (h : RQ w w1 d p p1 m) (hx : Ext w1 w2) : RQ w w2 d p p1 m := ⟨h.rd.ext hx, h.mod.ext hx, h.sub⟩
theorem RQ.rout (h : RQ w w1 d p p1 m) : ROut d p w m w1 := ⟨p1, h.rd, h.mod, h.sub⟩
theorem RQ.out (h : RQ w w1 d p p1 m) (k : ROut d p1 w1 m2 w2) : ∃ p2, RQ w w2 d p p2 m2 ∧ (∀ k, p2 k ≠ 0 → p1 k ≠ 0 ∨ w1.heap.size ≤ k) ∧ Mod (fun k => p1 k ≠ 0) w1 w2 := by
 obtain ⟨p2, h1, h2, h3⟩ := k
 refine ⟨p2, ⟨h1, h.mod.trans h2 (fun i hi => h.sub i hi), fun i hi => ?_⟩, h3, h2⟩
 rcases h3 i hi with e | e
 ·exact h.sub i e
 ·exact .inr (Nat.le_trans h.mod.size e)
theorem RQ.base {w0 : World} (h : RQ w w1 d p p1 m) (hx : Ext w0 w) : RQ w0 w1 d p p1 m :=
 ⟨h.rd, (Mod.of_ext hx).trans h.mod fun _ hi => .inl hi, fun k hk => (h.sub k hk).imp id fun e => Nat.le_trans hx.size e⟩
theorem part_keep {p1 p2 : Nat → Nat} {w1 : World} {g : Nat} (h : ∀ k, p2 k ≠ 0 → p1 k ≠ 0 ∨ w1.heap.size ≤ k) (h0 : p1 g = 0) (hlt : g < w1.heap.size) : p2 g = 0 := by
 rcases Nat.eq_zero_or_pos (p2 g) with e | e
 ·exact e
 ·rcases h g (by omega) with h1 | h1 <;> omega
theorem part_none {g : Nat} (h : RD w d p m) (hg : w.heap.size ≤ g) : p g = 0 := by
 rcases Nat.eq_zero_or_pos (p g) with e | e
 ·exact e
 ·have := h.2 g (by omega); omega
end
set_option maxHeartbeats 3200000 in
theorem rsput_of {w : World} {y d : Nat} {r inc : Int} {s : ShM} {q : Nat → Nat} {m : DM} (h : RShAt w y d r inc s) (hd : RD w d q m) (hy : q y = 0) (ix ar ct k : Nat) (har : ar ≤ 1) (hk : k < 8) (A : Option Addr) (n c : Nat) (l : List Nat) (hb : By w A n c l) (hn : n ≤ 140737488355000)
 (hse : sealE r 5 ((8 * ar + k : Nat) : Int) (ix : Int) inc (prZL (ct : Int) l).length 2 = 0) (hfew : m.waits.length + 2 ≤ 1000000) :
 Calls Tryz.prog 81 #[.pointer (some ⟨y, 0, none⟩), .int .i64 (ix : Int), .int .i64 (ar : Int), .int .i64 (ct : Int), .int .i64 (k : Int), .slice A n c] w fun e w' =>
  e = .returned (.int .i64 (wrsE (0, m) (firstS 5 ((8 * ar + k : Nat) : Int)) (frmY r inc ⟨ix, ar, ct⟩ k l) 2).1) ∧ ROut d q w (wrsE (0, m) (firstS 5 ((8 * ar + k : Nat) : Int)) (frmY r inc ⟨ix, ar, ct⟩ k l) 2).2 w' := by
 obtain ⟨p, hp⟩ : ∃ p : Nat, 8 * ar + k = p := ⟨_, rfl⟩
 have hp16 : p < 16 := by omega
 have hpi : 8 * (ar : Int) + (k : Int) = (p : Int) := by omega
 have hfs := first5 hp16
 have hsc := sC_lt hp16
 have hfl : (frmY r inc ⟨ix, ar, ct⟩ k l).length = 128 := by
  have := (sealL_len hse).1
  unfold frmY
  exact this
 have hfe : frmY r inc ⟨ix, ar, ct⟩ k l = sealL r 5 (p : Int) (ix : Int) inc (prZL (ct : Int) l) 2 := by unfold frmY; dsimp only; rw [hp]
 rw [hp] at hse ⊢
 rw [hfs]
 obtain ⟨S, hS⟩ : ∃ S : Nat, sC p = S := ⟨_, rfl⟩
 rw [hS] at hfs hsc ⊢
 rw [hfe] at hfl ⊢
 have hsl := fun (A1 : Option Addr) (n1 c1 : Nat) (V : World) (hb : By V A1 n1 c1 (prZL (ct : Int) l)) => rseal_own r 5 (p : Int) (ix : Int) inc 2 A1 n1 c1 (prZL (ct : Int) l) V hb
 generalize sealL r 5 (p : Int) (ix : Int) inc (prZL (ct : Int) l) 2 = Lf at *
 rw [hfl] at hsl
 have HSL := Lib.hid hsl
 have HPR := Lib.hid (zrprint_any (ct : Int) A n c l w hb hn)
 have H := Lib.hid h
 have HD := Lib.hid hd
 have HY := Lib.hid hy
 have HFS := Lib.hid hfs
 have HFL := Lib.hid hfl
 have HFW := Lib.hid hfew
 have hk8 : (k : Int) ≤ 8 := by omega
 have har' : (ar : Int) ≤ 1 := by omega
 clear h hd hy hb hn hse hfew hfs hfl hfe hsl hS hp
 go_enter Tryz.func81, Tryz.ntmps81
 go_wp2_with fail
 refine HPR.out.mono ?_
 rintro e w1 ⟨A1, n1, c1, rfl, hb1, hx⟩
 have HX1 := Lib.hid hx
 have HB1 := Lib.hid hb1
 clear hx hb1 HPR
 have e0 : IntKind.i64.wrap (8 * (ar : Int)) = 8 * (ar : Int) := by rw [wrap_i64 (by omega) (by omega)]
 have e1 : IntKind.i64.wrap (8 * (ar : Int) + (k : Int)) = (p : Int) := by rw [wrap_i64 (by omega) (by omega)]; exact hpi
 have e2 : IntKind.i64.wrap (p : Int) = (p : Int) := by rw [wrap_i64 (by omega) (by omega)]
 have hc := (H.out.ext HX1.out).cells
 have hS0 : w1.drew.cell? ⟨y, 1, none⟩ = some (.int .i64 r) ∧ w1.drew.cell? ⟨y, 2, none⟩ = some (.int .i64 inc) := ⟨hc.2.1, hc.2.2.1⟩
 have HS0K : Hid (∀ V, Ext w1 V → V.cell? ⟨y, 1, none⟩ = some (.int .i64 r) ∧ V.cell? ⟨y, 2, none⟩ = some (.int .i64 inc)) := Lib.hid fun V hV => ⟨ext_of_cell hV hS0.1, ext_of_cell hV hS0.2⟩
 clear hc
 go_upto_region 2 with (fail)
 go_region_held3 (fun w' => w'.cell? ⟨y, 1, none⟩ = some (.int .i64 r) ∧ w'.cell? ⟨y, 2, none⟩ = some (.int .i64 inc))
  (first | with_reducible exact hS0 | exact HS0K.out _ ((Ext.refl w1).alloc _).drew | exact HS0K.out _ ((Ext.refl w1).alloc _) | exact HS0K.out _ (ext_setCells ((Ext.refl w1).alloc _).drew (Nat.le_refl _) 0 _) | exact HS0K.out _ (ext_setCells ((Ext.refl w1).alloc _) (Nat.le_refl _) 0 _))
  (fail)
 go_upto_region 3 with (fail)
 try simp only [e2]
 have hE4 : Ext w1 (w1.alloc (.cells #[.int .i64 r, .int .i64 5, .int .i64 (p : Int), .int .i64 (ix : Int), .int .i64 inc] 44)) := (Ext.refl w1).alloc _
 have hz := heap_alloc_new w1 (.cells #[.int .i64 r, .int .i64 5, .int .i64 (p : Int), .int .i64 (ix : Int), .int .i64 inc] 44)
 generalize (w1.alloc (.cells #[.int .i64 r, .int .i64 5, .int .i64 (p : Int), .int .i64 (ix : Int), .int .i64 inc] 44)) = w4 at *
 obtain ⟨T, hT⟩ : ∃ T, w1.heap.size = T := ⟨_, rfl⟩
 have hTq : q T = 0 := part_none (HD.out.ext HX1.out) (by omega)
 rw [hT] at hz ⊢
 have HX4 : Hid (Ext w w4.drew) := Lib.hid (HX1.out.trans hE4).drew
 have HB4 : Hid (By w4.drew A1 n1 c1 (prZL (ct : Int) l)) := Lib.hid (HB1.out.ext hE4.drew)
 have hz2 : w4.drew.heap[T]? = some (.cells #[.int .i64 r, .int .i64 5, .int .i64 (p : Int), .int .i64 (ix : Int), .int .i64 inc] 44 (0, 0)) := hz
 have HT := Lib.hid hz2
 have HTQ := Lib.hid hTq
 generalize w4.drew = w5 at *
 obtain ⟨⟨d0, d1, d2, d3, d4⟩, _⟩ := five_cells HT.out
 clear hz hz2 hTq hT hE4 e0 e1 e2 hS0 HS0K HB1
 go_wp2_with fail
 refine (HSL.out A1 n1 c1 w5 HB4.out).mono ?_
 rintro e w6 ⟨A6, c6, rfl, hb6, hx, ho6⟩
 obtain ⟨gf, of, rfl, hgf, _⟩ := hb6.rd.2 (by rw [HFL.out]; omega)
 have hgf2 : w5.heap.size ≤ gf := (ho6.lt gf rfl).1
 have HX6 : Hid (Ext w w6) := Lib.hid (HX4.out.trans hx)
 have HR6 : Hid (RQ w w6 d q q m) := Lib.hid ((RQ.start HD.out).ext HX6.out)
 have HF6 : Hid (By w6 (some ⟨gf, of, none⟩) 128 c6 Lf ∧ q gf = 0) := Lib.hid ⟨hb6, part_none (HD.out.ext HX4.out) hgf2⟩
 have HT6 : Hid (w6.heap[T]? = some (.cells #[.int .i64 r, .int .i64 5, .int .i64 (p : Int), .int .i64 (ix : Int), .int .i64 inc] 44 (0, 0)) ∧ q T = 0) := Lib.hid ⟨(hx.block _ (Array.getElem?_eq_some_iff.1 HT.out).1).trans HT.out, HTQ.out⟩
 have HH6 : Hid (RShAt w6 y d r inc s ∧ q y = 0) := Lib.hid ⟨H.out.ext HX6.out, HY.out⟩
 clear hb6 hx ho6 hgf hgf2 d0 d1 d2 d3 d4 HT HTQ HX4 HB4 HSL
 go_wp2_with fail
 go_loopw [18] (fun i wr => ∃ (j : Nat) (q1 : Nat → Nat), j ≤ 2 ∧ i = .int .i64 (j : Int) ∧ Hid ((wrsE (0, m) (S : Int) Lf j).1 = 0) ∧ Hid (RQ w wr d q q1 (wrsE (0, m) (S : Int) Lf j).2) ∧ Hid (By wr (some ⟨gf, of, none⟩) 128 c6 Lf ∧ q1 gf = 0) ∧ Hid (wr.heap[T]? = some (.cells #[.int .i64 r, .int .i64 5, .int .i64 (p : Int), .int .i64 (ix : Int), .int .i64 inc] 44 (0, 0)) ∧ q1 T = 0) ∧ Hid (RShAt wr y d r inc s ∧ q1 y = 0)) (fun i _ => 2 - (intOf i).toNat)
 case atStart => exact ⟨0, q, by omega, rfl, Lib.hid rfl, HR6, HF6, HT6, HH6⟩
 case round =>
  obtain ⟨j, q1, hj, rfl, HY0, HR, HF, HT, HH⟩ := hrel
  by_cases hlq : j < 2
  ·have hy1 : wrsE (0, m) (S : Int) Lf (j + 1) = unE (wrsE (0, m) (S : Int) Lf j) fun m => m.write ((S : Int) + (j : Int)) ((Lf.drop (64 * j)).take 64) := rfl
   have hyw := wrs_waits (m := m) (E := 0) (S := (S : Int)) (L := Lf) j
   have hys : (wrsE (0, m) (S : Int) Lf (j + 1)).1 ≠ 0 → wrsE (0, m) (S : Int) Lf 2 = wrsE (0, m) (S : Int) Lf (j + 1) := wrs_stop (by omega)
   rw [hy1] at hys
   generalize wrsE (0, m) (S : Int) Lf j = Y at *
   obtain ⟨Y0, mq⟩ := Y
   obtain rfl : Y0 = 0 := HY0.out
   have hy2 : unE ((0 : Int), mq) (fun m => m.write ((S : Int) + (j : Int)) ((Lf.drop (64 * j)).take 64)) = mq.write ((S : Int) + (j : Int)) ((Lf.drop (64 * j)).take 64) := if_pos rfl
   rw [hy2] at hy1 hys
   have hpc := By.piece HF.out.1 (64 * j) (by omega)
   have hmq : mq.waits.length ≤ 1000000 := by have := HFW.out; dsimp only at hyw; omega
   have hS0 : wr.drew.cell? ⟨y, 0, none⟩ = some (.pointer (some ⟨d, 0, none⟩)) ∧ wr.drew.cell? ⟨T, 2, none⟩ = some (.int .i64 (p : Int)) := ⟨HH.out.1.cells.1, cell_of_row wr T 2 _ _ _ HT.out.1⟩
   have HFI := Lib.hid (rfirst_any 5 (p : Int) wr.drew)
   rw [HFS.out] at HFI
   have HYS := Lib.hid hys
   have HY1 := Lib.hid hy1
   have hcf := HF.out.1.cap
   have hcm := HF.out.1.most
   have h64 : (64 : Int) ≤ (c6 : Int) := by omega
   have h128 : (128 : Int) ≤ (c6 : Int) := by omega
   obtain ⟨lo, hlo⟩ : ∃ lo : Nat, 64 * j = lo := ⟨_, rfl⟩
   obtain ⟨hi2, hhi⟩ : ∃ hi2 : Nat, lo + 64 = hi2 := ⟨_, rfl⟩
   have hcut := cut_mid gf of 128 c6 lo hi2 (by omega) (by omega) (by omega)
   rw [show hi2 - lo = 64 by omega] at hcut
   have e0 : IntKind.i64.wrap (64 * (j : Int)) = (lo : Int) := by rw [wrap_i64 (by omega) (by omega)]; omega
   have e1 : IntKind.i64.wrap ((lo : Int) + 64) = (hi2 : Int) := by rw [wrap_i64 (by omega) (by omega)]; omega
   have e2 : IntKind.i64.wrap (64 * (j : Int) + 64) = (hi2 : Int) := by rw [wrap_i64 (by omega) (by omega)]; omega
   rw [hlo] at hpc HYS HY1
   have hwt : Calls Tryz.prog 61 #[.pointer (some ⟨d, 0, none⟩), .int .i64 (IntKind.i64.wrap ((S : Int) + (j : Int))), .slice (some ⟨gf, of + lo, none⟩) 64 (c6 - lo)] wr.drew fun e w' => e = .returned (.int .i64 (mq.write ((S : Int) + (j : Int)) ((Lf.drop lo).take 64)).1) ∧ ROut d q1 wr.drew (mq.write ((S : Int) + (j : Int)) ((Lf.drop lo).take 64)).2 w' := by
    rw [wrap_i64 (by omega) (by omega)]
    exact rwrite_out (HR.out.rd.ext (Ext.refl wr).drew) _ _ _ _ _ (hpc.ext (Ext.refl wr).drew) (fun ⟨g, o, e, hg⟩ => by injection e with e; injection e with e1 _; subst e1; exact hg HF.out.2) hmq
   have HWT := Lib.hid hwt
   clear hy1 hy2 hys hyw hpc hmq HY0 hlo hhi h64 h128 hcf hcm hwt
   generalize mq.write ((S : Int) + (j : Int)) ((Lf.drop lo).take 64) = R at *
   obtain ⟨E2, m2⟩ := R
   dsimp only at HWT
   go_wp2_with fail
   go_region_held3 (fun w' => w'.cell? ⟨y, 0, none⟩ = some (.pointer (some ⟨d, 0, none⟩)) ∧ w'.cell? ⟨T, 2, none⟩ = some (.int .i64 (p : Int)))
    (first | with_reducible exact hS0 | exact hS5)
    (first
     | (go_at_call 126; ((with_reducible refine HFI.out.mono ?_); rintro e w7 ⟨rfl, rfl⟩))
     | (go_at_call 61; ((with_reducible refine HWT.out.mono ?_); rintro e w8 ⟨rfl, hs8⟩; obtain ⟨q2, HR8, HSUB, HM8⟩ := (HR.out.ext (Ext.refl wr).drew).out hs8; have hS5 : w8.cell? ⟨y, 0, none⟩ = some (.pointer (some ⟨d, 0, none⟩)) ∧ w8.cell? ⟨T, 2, none⟩ = some (.int .i64 (p : Int)) := ⟨mod_cell HM8 (fun e => e HH.out.2) hS0.1, mod_cell HM8 (fun e => e HT.out.2) hS0.2⟩; have HK8 := Lib.hid (And.intro HR8 (And.intro HSUB HM8)); clear hs8 HR8 HSUB HM8)))
   have hlty : y < wr.drew.heap.size := HH.out.1.lt
   have hltT : T < wr.drew.heap.size := (Array.getElem?_eq_some_iff.1 HT.out.1).1
   have hltf : gf < wr.drew.heap.size := (HF.out.1.rd.2 (by rw [HFL.out]; omega)).elim fun g hh => by obtain ⟨o, e, hlt, _⟩ := hh; injection e with e; injection e with e1 _; subst e1; exact hlt
   have HF8 : Hid (By w8 (some ⟨gf, of, none⟩) 128 c6 Lf ∧ q2 gf = 0) := Lib.hid ⟨By.mod (HF.out.1.ext (Ext.refl wr).drew) HK8.out.2.2 (fun z hz => by injection hz with hz; subst hz; exact fun e => e HF.out.2), part_keep HK8.out.2.1 HF.out.2 hltf⟩
   have HT8 : Hid (w8.heap[T]? = some (.cells #[.int .i64 r, .int .i64 5, .int .i64 (p : Int), .int .i64 (ix : Int), .int .i64 inc] 44 (0, 0)) ∧ q2 T = 0) := Lib.hid ⟨heap_mod (w := wr.drew) HT.out.1 HK8.out.2.2 (fun e => e HT.out.2), part_keep HK8.out.2.1 HT.out.2 hltT⟩
   have HH8 : Hid (RShAt w8 y d r inc s ∧ q2 y = 0) := Lib.hid ⟨(HH.out.1.ext (Ext.refl wr).drew).mod HK8.out.2.2 (fun e => e HH.out.2), part_keep HK8.out.2.1 HH.out.2 hlty⟩
   have HR8 := Lib.hid HK8.out.1
   clear hS0 hS5 hcut e0 e1 e2 hlty hltT hltf HK8
   by_cases h0 : E2 = 0
   ·subst h0
    go_wp2_with fail
    go_roundw
    case rel => exact ⟨j + 1, q2, by omega, by go_num, Lib.hid (by rw [HY1.out]), by rw [HY1.out]; exact HR8, HF8, HT8, HH8⟩
    case measure => simp [intOf]; omega
   ·have hne : (E2 != 0) = true := by simpa using h0
    have HFIN := Lib.hid (HYS.out h0)
    clear h0
    go_wp2_with fail
    go_ret
    exact ⟨by rw [HFIN.out]; rfl, by rw [HFIN.out]; exact HR8.out.rout⟩
  ·obtain rfl : j = 2 := by omega
   go_wp2_with fail
   go_ret
   exact ⟨by rw [HY0.out]; rfl, HR.out.rout⟩
end
end Go.Proofs.YtmpaocpgoihliaaGreatDoor
