/-
  The document's Store over the document's disk.
  The contract of Great of the cells great statement; the cells of its acts.
  An act of ghost's at the program's disk, told by its step: nothing but the disk's blocks is written.
-/
import Derived.Test.YtlikhmhomkiadaaGreatDoorR14
import Derived.Test.YtlikhmhomkiadaaGreatDoorR25
import Derived.Test.YtlikhmhomkiadaaGreatDoorR30
import Derived.Test.YtlikhmhomkiadaaGreatDoorR32
import Derived.IntWalk
namespace Go.Proofs.YtlikhmhomkiadaaGreatDoor
open Go Go.RowKit

theorem By.modR {p : Nat → Nat} {w w' : World} {A : Option Addr} {n cp : Nat} {l : List Nat} (h : By w A n cp l) (k : Mod (fun k => p k ≠ 0) w w') (ho : ∀ g o, A = some ⟨g, o, none⟩ → 0 < n → p g = 0) : By w' A n cp l := by
  refine ⟨h.len, h.cap, h.most, ⟨h.rd.1, fun hn => ?_⟩, Bs.nil_ h⟩
  obtain ⟨g, o, e, hg, hc⟩ := h.rd.2 hn
  refine ⟨g, o, e, Nat.lt_of_lt_of_le hg k.size, fun j x hx => ?_⟩
  rw [← hc j x hx]
  exact World.cell?_of_block (a := ⟨g, o + j, none⟩) (k.block g hg (by have := ho g o e (by have := h.len; omega); simp [this]))
theorem By.modG {F : Nat → Prop} {w w' : World} {A : Option Addr} {n cp : Nat} {l : List Nat} (h : By w A n cp l) (k : Mod F w w') (ho : ∀ g o, A = some ⟨g, o, none⟩ → 0 < n → ¬ F g) : By w' A n cp l := by
  refine ⟨h.len, h.cap, h.most, ⟨h.rd.1, fun hn => ?_⟩, Bs.nil_ h⟩
  obtain ⟨g, o, e, hg, hc⟩ := h.rd.2 hn
  refine ⟨g, o, e, Nat.lt_of_lt_of_le hg k.size, fun j x hx => ?_⟩
  rw [← hc j x hx]
  exact World.cell?_of_block (k.block g hg (ho g o e (by have := h.len; omega)))
theorem loadV_le {m : DM} (h : m.Ok) (r g : Int) : m.loadV r g ≤ 1099511627776 := by
  unfold DM.loadV
  split
  · unfold cellF
    split
    · rename_i ha
      have := (mayB_iff.1 (mine_copy (x := m.cb g 0) (p := 0) (read_sect h _) (atC_zero ha)).2.2.2.1)
      omega
    · split
      · rename_i ha
        have := (mayB_iff.1 (mine_copy (x := m.cb g 1) (p := 1) (read_sect h _) (atC_one ha)).2.2.2.1)
        omega
      · omega
  · omega
theorem rputC_waits (m : DM) (s : Int) (L : List Nat) : (m.putC s L).2.waits.length ≤ m.waits.length + 1 := by
  have hw : (m.write s L).2.waits.length ≤ m.waits.length + 1 := by
    unfold DM.write
    (repeat' split) <;> simp
  unfold DM.putC
  split
  · exact hw
  · refine Nat.le_trans ?_ hw
    generalize (m.write s L).2 = m1
    unfold DM.flush
    (repeat' split) <;> simp
theorem rstore_no {w : World} {d : Nat} {p : Nat → Nat} {m : DM} (h : RD w d p m) (r g c : Int) (A : Option Addr) (n cp : Nat) (hk : knownC m.size r g ≠ 0) :
    Calls Tryz.prog 23 #[.pointer (some ⟨d, 0, none⟩), .int .i64 r, .int .i64 g, .int .i64 c, .slice A n cp] w fun e w' => e = .returned (.int .i64 2) ∧ w = w' := by
  have ha := rask_of h r g
  rw [(askC_no (rd_size h).1 hk).1] at ha
  have HA := Lib.hid ha
  clear h hk ha
  go_enter Tryz.func23, Tryz.ntmps23
  go_wp2_with fail
  refine HA.out.mono ?_
  rintro e w1 ⟨rfl, rfl⟩
  go_wp2_with fail
  go_ret
  exact ⟨rfl, rfl⟩
theorem store_err {m : DM} {r g c E : Int} {b : List Nat} (h : m.storeE r g c b.length = E) (h0 : E ≠ 0) : m.store r g c b = (E, m) := by
  unfold DM.store
  rw [if_pos (by rw [h]; exact h0), h]
theorem store_one {m m1 : DM} {r g P E1 : Int} {cn : Nat} {b : List Nat} (h : m.storeE r g (cn : Int) b.length = 0) (hP : firstP r g (m.cb g 0) (m.cb g 1) = P) (h1 : m.putC (firstS g P) (sealC r g P (m.loadV r g + 1) cn b) = (E1, m1)) (h0 : E1 ≠ 0) : m.store r g (cn : Int) b = (E1, m1) := by
  unfold DM.store DM.puts2
  rw [if_neg (by rw [h]; simp), hP, Int.toNat_natCast, h1]
  simp [h0]
theorem store_two {m m1 m2 : DM} {r g P E2 : Int} {cn : Nat} {b : List Nat} (h : m.storeE r g (cn : Int) b.length = 0) (hP : firstP r g (m.cb g 0) (m.cb g 1) = P) (h1 : m.putC (firstS g P) (sealC r g P (m.loadV r g + 1) cn b) = (0, m1)) (h2 : m1.putC (firstS g (1 - P)) (sealC r g (1 - P) (m.loadV r g + 1) cn b) = (E2, m2)) : m.store r g (cn : Int) b = (E2, m2) := by
  unfold DM.store DM.puts2
  rw [if_neg (by rw [h]; simp), hP, Int.toNat_natCast, h1]
  simp only [ne_eq, not_true_eq_false, if_false]
  exact h2

set_option maxRecDepth 100000 in
set_option maxHeartbeats 1600000 in
theorem rstore_of {w : World} {d : Nat} {p : Nat → Nat} {m : DM} (h : RD w d p m) (r g c : Int) (A : Option Addr) (n cp : Nat) (body : List Nat) (hb : By w A n cp body) (ho : ∀ g o, A = some ⟨g, o, none⟩ → 0 < n → p g = 0) (hfew : m.waits.length + 2 ≤ 1000000) (hk : knownC m.size r g = 0) :
    Calls Tryz.prog 23 #[.pointer (some ⟨d, 0, none⟩), .int .i64 r, .int .i64 g, .int .i64 c, .slice A n cp] w fun e w' => e = .returned (.int .i64 (m.store r g c body).1) ∧ ROut d p w (m.store r g c body).2 w' := by
  have ha := rask_of h r g
  rw [askC_yes hk] at ha
  have HA := Lib.hid ha
  have H := Lib.hid h
  have hlen := hb.len
  have hcap := hb.cap
  have hmost := hb.most
  have HSE : Hid (m.storeE r g c body.length = if c < 1 ∨ 1099511627776 < c then 2 else if 43 < n then 3 else if m.loadE r g ≠ 0 then m.loadE r g else if m.loadV r g = 1099511627776 then 4 else 0) := Lib.hid (by rw [hlen]; rfl)
  have HL := Lib.hid (rload_of h r g (by omega) hk)
  clear ha
  by_cases h1 : c < 1
  · have HQ := Lib.hid (store_err (b := body) (by rw [HSE.out, if_pos (.inl h1)]) (by omega) : m.store r g c body = (2, m))
    rw [HQ.out]
    clear h hb ho hfew hk hlen HSE HQ
    go_enter Tryz.func23, Tryz.ntmps23
    go_wp2_with fail
    refine HA.out.mono ?_
    rintro e w1 ⟨rfl, rfl⟩
    go_wp2_with fail
    go_ret
    exact ⟨rfl, rout_refl H.out (Ext.refl _)⟩
  · by_cases h2 : 1099511627776 < c
    · have HQ := Lib.hid (store_err (b := body) (by rw [HSE.out, if_pos (.inr h2)]) (by omega) : m.store r g c body = (2, m))
      rw [HQ.out]
      clear h hb ho hfew hk hlen HSE HQ
      go_enter Tryz.func23, Tryz.ntmps23
      go_wp2_with fail
      refine HA.out.mono ?_
      rintro e w1 ⟨rfl, rfl⟩
      go_wp2_with fail
      go_ret
      exact ⟨rfl, rout_refl H.out (Ext.refl _)⟩
    · by_cases h3 : 43 < n
      · have HQ := Lib.hid (store_err (b := body) (by rw [HSE.out, if_neg (by omega), if_pos h3]) (by omega) : m.store r g c body = (3, m))
        rw [HQ.out]
        clear h hb ho hfew hk hlen HSE HQ
        go_enter Tryz.func23, Tryz.ntmps23
        go_wp2_with fail
        refine HA.out.mono ?_
        rintro e w1 ⟨rfl, rfl⟩
        go_wp2_with fail
        go_ret
        exact ⟨rfl, rout_refl H.out (Ext.refl _)⟩
      · by_cases h4 : m.loadE r g ≠ 0
        · obtain ⟨E, hE⟩ : ∃ E, m.loadE r g = E := ⟨_, rfl⟩
          rw [hE] at h4 HL HSE
          have HQ := Lib.hid (store_err (b := body) (by rw [HSE.out, if_neg (by omega), if_neg h3, if_pos h4]) (by exact h4) : m.store r g c body = (E, m))
          rw [HQ.out]
          have hne : (E != 0) = true := by simpa using h4
          clear h hb ho hfew hk hlen HSE HQ hE h4
          go_enter Tryz.func23, Tryz.ntmps23
          go_wp2_with fail
          refine HA.out.mono ?_
          rintro e w1 ⟨rfl, rfl⟩
          go_wp2_with fail
          refine HL.out.mono ?_
          rintro e w2 ⟨A2, N2, k2, rfl, _, hx⟩
          have HX := Lib.hid hx
          clear hx
          go_wp2_with fail
          go_ret
          exact ⟨rfl, rout_refl H.out HX.out⟩
        · by_cases h5 : m.loadV r g = 1099511627776
          · have HQ := Lib.hid (store_err (b := body) (by rw [HSE.out, if_neg (by omega), if_neg h3, if_neg (by simpa using h4), if_pos h5]) (by omega) : m.store r g c body = (4, m))
            rw [HQ.out]
            have h4 : m.loadE r g = 0 := by simpa using h4
            rw [h4, h5] at HL
            clear h hb ho hfew hk hlen HSE HQ h4 h5
            go_enter Tryz.func23, Tryz.ntmps23
            go_wp2_with fail
            refine HA.out.mono ?_
            rintro e w1 ⟨rfl, rfl⟩
            go_wp2_with fail
            refine HL.out.mono ?_
            rintro e w2 ⟨A2, N2, k2, rfl, _, hx⟩
            have HX := Lib.hid hx
            clear hx
            go_wp2_with fail
            go_ret
            exact ⟨rfl, rout_refl H.out HX.out⟩
          · have h4 : m.loadE r g = 0 := by simpa using h4
            obtain ⟨cn, rfl⟩ := Int.eq_ofNat_of_zero_le (show 0 ≤ c by omega)
            have hse : m.storeE r g (cn : Int) body.length = 0 := by rw [HSE.out, if_neg (by omega), if_neg h3, if_neg (by simpa using h4), if_neg h5]
            have hwh := fun V (hx : Ext w V) => rwhich_of (h.ext hx) r g (by omega)
            obtain ⟨vI, hvI⟩ : ∃ vI : Int, (m.loadV r g : Int) = vI := ⟨_, rfl⟩
            have hge : ¬ (1099511627776 : Int) ≤ vI := by have := loadV_le (rd_size h).2.2 r g; omega
            have hvw : IntKind.i64.wrap (vI + 1) = vI + 1 := IntWalk.i64_in _ (by have := loadV_le (rd_size h).2.2 r g; omega)
            have hp := fun (P : Int) (V : World) (hV : Ext w V) => rput_of (h.ext hV) r g P (vI + 1) (cn : Int) A n cp body (hb.ext hV) (by omega)
            have hcc : cellE r g (m.cb g 0) (m.cb g 1) = 0 := by have := h4; unfold DM.loadE at this; split at this <;> first | (cases this; done) | exact this
            rw [hcc] at hwh
            rw [h4, hvI] at HL
            have HB := Lib.hid hb
            have HO := Lib.hid ho
            have HF := Lib.hid hfew
            clear hcc h5
            by_cases h6 : atC r g (m.cb g 0) (m.cb g 1) = 0
            · have hP : firstP r g (m.cb g 0) (m.cb g 1) = 1 := by unfold firstP; rw [if_pos h6]
              rw [h6] at hwh
              have HWH := Lib.hid hwh
              obtain ⟨E1, hE1⟩ : ∃ E1, (m.putC (firstS g 1) (sealC r g 1 (m.loadV r g + 1) cn body)).1 = E1 := ⟨_, rfl⟩
              obtain ⟨m1, hm1⟩ : ∃ m1, (m.putC (firstS g 1) (sealC r g 1 (m.loadV r g + 1) cn body)).2 = m1 := ⟨_, rfl⟩
              have heq : m.putC (firstS g 1) (sealC r g 1 (m.loadV r g + 1) cn body) = (E1, m1) := by rw [← hE1, ← hm1]
              have hp1 := hp 1
              rw [show sealL r g 1 (vI + 1) (cn : Int) body 1 = sealC r g 1 (m.loadV r g + 1) cn body by rw [← hvI]; rfl, heq] at hp1
              have HP1 := Lib.hid hp1
              by_cases h7 : E1 = 0
              · subst h7
                have hp2 := fun (V2 : World) (pp : Nat → Nat) (hr : RD V2 d pp m1) (hb2 : By V2 A n cp body) => rput_of hr r g (1 - 1) (vI + 1) (cn : Int) A n cp body hb2
                rw [show sealL r g (1 - 1) (vI + 1) (cn : Int) body 1 = sealC r g (1 - 1) (m.loadV r g + 1) cn body by rw [← hvI]; rfl] at hp2
                have hwt : m1.waits.length + 1 ≤ 1000000 := by
                  have := rputC_waits m (firstS g 1) (sealC r g 1 (m.loadV r g + 1) cn body)
                  rw [heq] at this
                  have h9 : m1.waits.length ≤ m.waits.length + 1 := this
                  have := HF.out
                  omega
                obtain ⟨E2, hE2⟩ : ∃ E2, (m1.putC (firstS g (1 - 1)) (sealC r g (1 - 1) (m.loadV r g + 1) cn body)).1 = E2 := ⟨_, rfl⟩
                obtain ⟨m2, hm2⟩ : ∃ m2, (m1.putC (firstS g (1 - 1)) (sealC r g (1 - 1) (m.loadV r g + 1) cn body)).2 = m2 := ⟨_, rfl⟩
                have heq2 : m1.putC (firstS g (1 - 1)) (sealC r g (1 - 1) (m.loadV r g + 1) cn body) = (E2, m2) := by rw [← hE2, ← hm2]
                rw [heq2] at hp2
                have HP2 : Hid (∀ (V2 : World) (pp : Nat → Nat) (hr : RD V2 d pp m1) (hb2 : By V2 A n cp body), _) := Lib.hid fun V2 pp hr hb2 => hp2 V2 pp hr hb2 hwt
                have HQ := Lib.hid (store_two hse hP heq heq2)
                rw [HQ.out]
                clear h hb ho hfew hk hlen HSE HQ hse h4 hwh hp hp1 hp2 hwt h6 hE1 hm1 hE2 hm2 heq heq2 hP
                clear hvI
                go_enter Tryz.func23, Tryz.ntmps23
                go_wp2_with fail
                refine HA.out.mono ?_
                rintro e w1 ⟨rfl, rfl⟩
                go_wp2_with fail
                refine HL.out.mono ?_
                rintro e w2 ⟨A2, N2, k2, rfl, _, hx⟩
                have HX := Lib.hid hx
                clear hx
                go_wp2_with fail
                refine (HWH.out _ HX.out).mono ?_
                rintro e w3 ⟨rfl, hx⟩
                have HF0 := Lib.hid (HX.out.trans hx).size
                have HT := Lib.hid (heap_alloc_new w3 (.cells #[.int .i64 r, .int .i64 g, .int .i64 0, .int .i64 (vI + 1), .int .i64 (cn : Int)] 33))
                have HX2 := Lib.hid ((HX.out.trans hx).alloc (.cells #[.int .i64 r, .int .i64 g, .int .i64 1, .int .i64 (vI + 1), .int .i64 (cn : Int)] 33))
                have HT2 := Lib.hid (heap_alloc_new w3 (.cells #[.int .i64 r, .int .i64 g, .int .i64 1, .int .i64 (vI + 1), .int .i64 (cn : Int)] 33))
                have HX := Lib.hid ((HX.out.trans hx).alloc (.cells #[.int .i64 r, .int .i64 g, .int .i64 0, .int .i64 (vI + 1), .int .i64 (cn : Int)] 33))
                clear hx
                obtain ⟨⟨p0, p1, p2, p3, p4⟩, q0, q1, q2, q3, q4⟩ := five_cells HT.out
                go_wp2_with fail
                refine (HP1.out _ HX2.out).mono ?_
                rintro e w4 ⟨rfl, ho4⟩
                obtain ⟨pp, r4, hm4, hn4⟩ := ho4
                have HR4 := Lib.hid r4
                have HM4 := Lib.hid hm4
                have HN4 := Lib.hid hn4
                have HT4 := Lib.hid (heap_mod HT2.out hm4 (by intro hp; have := H.out.2 _ hp; have := HF0.out; omega))
                have HB4 := Lib.hid ((HB.out.ext HX2.out).modR hm4 HO.out)
                have HNW : Hid (∀ i, pp i ≠ 0 → i = w3.heap.size → False) := Lib.hid (by
                  intro i hi he
                  subst he
                  rcases r4.1 with ⟨qq, hq⟩
                  rcases hn4 _ hi with h | h
                  · have h1 := H.out.2 _ h
                    have h2 := HF0.out
                    omega
                  · have h1 := (Array.getElem?_eq_some_iff.1 HT2.out).1
                    omega)
                clear r4 hm4 hn4
                clear p0 p1 p2 p3 p4 q0 q1 q2 q3 q4
                obtain ⟨⟨p0, p1, p2, p3, p4⟩, q0, q1, q2, q3, q4⟩ := five_cells HT4.out
                go_wp2_with fail
                have hr5 : RD (w4.setCell ⟨w3.heap.size, 2, none⟩ (.int .i64 0)) d pp m1 := HR4.out.mod (F := fun k => k = w3.heap.size) (mod_one _ _ _ _) (fun i hi he => HNW.out i hi he)
                have hb5 : By (w4.setCell ⟨w3.heap.size, 2, none⟩ (.int .i64 0)) A n cp body := HB4.out.modG (F := fun k => k = w3.heap.size) (mod_one _ _ _ _) (fun gg o e hn he => by
                  subst he
                  have h9 := HB.out.rd.2 (by have := HB.out.len; omega)
                  obtain ⟨g9, o9, e9, h9, _⟩ := h9
                  rw [e] at e9
                  injection e9 with e9
                  injection e9 with e9 _
                  have := HF0.out
                  omega)
                refine (HP2.out _ pp hr5 hb5).mono ?_
                rintro e w5 ⟨rfl, ho5⟩
                have HO5 : Hid (ROut d p w m2 w5) := Lib.hid (rout_trans (p1 := pp) (((Mod.of_ext HX2.out).trans HM4.out (fun i hi => .inl hi)).trans (mod_one _ w3.heap.size 2 (.int .i64 0)) (fun i hi => .inr (by rw [hi]; exact HF0.out))) (fun k hk => (HN4.out k hk).imp id (fun h => Nat.le_trans HX2.out.size h)) ho5)
                clear ho5 hr5 hb5
                go_wp2_with fail
                go_ret
                exact ⟨rfl, HO5.out⟩
              · have hne : (E1 != 0) = true := by simpa using h7
                have HQ := Lib.hid (store_one hse hP heq h7)
                rw [HQ.out]
                clear h hb ho hfew hk hlen HSE HQ hse h4 hwh hp hp1 h6 hE1 hm1 heq hP h7
                clear hvI
                go_enter Tryz.func23, Tryz.ntmps23
                go_wp2_with fail
                refine HA.out.mono ?_
                rintro e w1 ⟨rfl, rfl⟩
                go_wp2_with fail
                refine HL.out.mono ?_
                rintro e w2 ⟨A2, N2, k2, rfl, _, hx⟩
                have HX := Lib.hid hx
                clear hx
                go_wp2_with fail
                refine (HWH.out _ HX.out).mono ?_
                rintro e w3 ⟨rfl, hx⟩
                have HF0 := Lib.hid (HX.out.trans hx).size
                have HT := Lib.hid (heap_alloc_new w3 (.cells #[.int .i64 r, .int .i64 g, .int .i64 0, .int .i64 (vI + 1), .int .i64 (cn : Int)] 33))
                have HX2 := Lib.hid ((HX.out.trans hx).alloc (.cells #[.int .i64 r, .int .i64 g, .int .i64 1, .int .i64 (vI + 1), .int .i64 (cn : Int)] 33))
                have HT2 := Lib.hid (heap_alloc_new w3 (.cells #[.int .i64 r, .int .i64 g, .int .i64 1, .int .i64 (vI + 1), .int .i64 (cn : Int)] 33))
                have HX := Lib.hid ((HX.out.trans hx).alloc (.cells #[.int .i64 r, .int .i64 g, .int .i64 0, .int .i64 (vI + 1), .int .i64 (cn : Int)] 33))
                clear hx
                obtain ⟨⟨p0, p1, p2, p3, p4⟩, q0, q1, q2, q3, q4⟩ := five_cells HT.out
                go_wp2_with fail
                refine (HP1.out _ HX2.out).mono ?_
                rintro e w4 ⟨rfl, ho4⟩
                have HO4 := Lib.hid (ho4.from HX2.out)
                clear ho4
                go_wp2_with fail
                go_ret
                exact ⟨rfl, HO4.out⟩
            · have hP : firstP r g (m.cb g 0) (m.cb g 1) = 0 := by unfold firstP; rw [if_neg h6]
              have hic : (atC r g (m.cb g 0) (m.cb g 1) == 0) = false := by simpa using h6
              generalize atC r g (m.cb g 0) (m.cb g 1) = ic at hwh hic
              have HWH := Lib.hid hwh
              obtain ⟨E1, hE1⟩ : ∃ E1, (m.putC (firstS g 0) (sealC r g 0 (m.loadV r g + 1) cn body)).1 = E1 := ⟨_, rfl⟩
              obtain ⟨m1, hm1⟩ : ∃ m1, (m.putC (firstS g 0) (sealC r g 0 (m.loadV r g + 1) cn body)).2 = m1 := ⟨_, rfl⟩
              have heq : m.putC (firstS g 0) (sealC r g 0 (m.loadV r g + 1) cn body) = (E1, m1) := by rw [← hE1, ← hm1]
              have hp1 := hp 0
              rw [show sealL r g 0 (vI + 1) (cn : Int) body 1 = sealC r g 0 (m.loadV r g + 1) cn body by rw [← hvI]; rfl, heq] at hp1
              have HP1 := Lib.hid hp1
              by_cases h7 : E1 = 0
              · subst h7
                have hp2 := fun (V2 : World) (pp : Nat → Nat) (hr : RD V2 d pp m1) (hb2 : By V2 A n cp body) => rput_of hr r g (1 - 0) (vI + 1) (cn : Int) A n cp body hb2
                rw [show sealL r g (1 - 0) (vI + 1) (cn : Int) body 1 = sealC r g (1 - 0) (m.loadV r g + 1) cn body by rw [← hvI]; rfl] at hp2
                have hwt : m1.waits.length + 1 ≤ 1000000 := by
                  have := rputC_waits m (firstS g 0) (sealC r g 0 (m.loadV r g + 1) cn body)
                  rw [heq] at this
                  have h9 : m1.waits.length ≤ m.waits.length + 1 := this
                  have := HF.out
                  omega
                obtain ⟨E2, hE2⟩ : ∃ E2, (m1.putC (firstS g (1 - 0)) (sealC r g (1 - 0) (m.loadV r g + 1) cn body)).1 = E2 := ⟨_, rfl⟩
                obtain ⟨m2, hm2⟩ : ∃ m2, (m1.putC (firstS g (1 - 0)) (sealC r g (1 - 0) (m.loadV r g + 1) cn body)).2 = m2 := ⟨_, rfl⟩
                have heq2 : m1.putC (firstS g (1 - 0)) (sealC r g (1 - 0) (m.loadV r g + 1) cn body) = (E2, m2) := by rw [← hE2, ← hm2]
                rw [heq2] at hp2
                have HP2 : Hid (∀ (V2 : World) (pp : Nat → Nat) (hr : RD V2 d pp m1) (hb2 : By V2 A n cp body), _) := Lib.hid fun V2 pp hr hb2 => hp2 V2 pp hr hb2 hwt
                have HQ := Lib.hid (store_two hse hP heq heq2)
                rw [HQ.out]
                clear h hb ho hfew hk hlen HSE HQ hse h4 hwh hp hp1 hp2 hwt h6 hE1 hm1 hE2 hm2 heq heq2 hP
                clear hvI
                go_enter Tryz.func23, Tryz.ntmps23
                go_wp2_with fail
                refine HA.out.mono ?_
                rintro e w1 ⟨rfl, rfl⟩
                go_wp2_with fail
                refine HL.out.mono ?_
                rintro e w2 ⟨A2, N2, k2, rfl, _, hx⟩
                have HX := Lib.hid hx
                clear hx
                go_wp2_with fail
                refine (HWH.out _ HX.out).mono ?_
                rintro e w3 ⟨rfl, hx⟩
                have HF0 := Lib.hid (HX.out.trans hx).size
                have HT := Lib.hid (heap_alloc_new w3 (.cells #[.int .i64 r, .int .i64 g, .int .i64 0, .int .i64 (vI + 1), .int .i64 (cn : Int)] 33))
                have HX := Lib.hid ((HX.out.trans hx).alloc (.cells #[.int .i64 r, .int .i64 g, .int .i64 0, .int .i64 (vI + 1), .int .i64 (cn : Int)] 33))
                clear hx
                obtain ⟨⟨p0, p1, p2, p3, p4⟩, q0, q1, q2, q3, q4⟩ := five_cells HT.out
                go_wp2_with fail
                have HX2 := HX
                have HT2 := HT
                refine (HP1.out _ HX2.out).mono ?_
                rintro e w4 ⟨rfl, ho4⟩
                obtain ⟨pp, r4, hm4, hn4⟩ := ho4
                have HR4 := Lib.hid r4
                have HM4 := Lib.hid hm4
                have HN4 := Lib.hid hn4
                have HT4 := Lib.hid (heap_mod HT2.out hm4 (by intro hp; have := H.out.2 _ hp; have := HF0.out; omega))
                have HB4 := Lib.hid ((HB.out.ext HX2.out).modR hm4 HO.out)
                have HNW : Hid (∀ i, pp i ≠ 0 → i = w3.heap.size → False) := Lib.hid (by
                  intro i hi he
                  subst he
                  rcases r4.1 with ⟨qq, hq⟩
                  rcases hn4 _ hi with h | h
                  · have h1 := H.out.2 _ h
                    have h2 := HF0.out
                    omega
                  · have h1 := (Array.getElem?_eq_some_iff.1 HT2.out).1
                    omega)
                clear r4 hm4 hn4
                clear p0 p1 p2 p3 p4 q0 q1 q2 q3 q4
                obtain ⟨⟨p0, p1, p2, p3, p4⟩, q0, q1, q2, q3, q4⟩ := five_cells HT4.out
                go_wp2_with fail
                have hr5 : RD (w4.setCell ⟨w3.heap.size, 2, none⟩ (.int .i64 1)) d pp m1 := HR4.out.mod (F := fun k => k = w3.heap.size) (mod_one _ _ _ _) (fun i hi he => HNW.out i hi he)
                have hb5 : By (w4.setCell ⟨w3.heap.size, 2, none⟩ (.int .i64 1)) A n cp body := HB4.out.modG (F := fun k => k = w3.heap.size) (mod_one _ _ _ _) (fun gg o e hn he => by
                  subst he
                  have h9 := HB.out.rd.2 (by have := HB.out.len; omega)
                  obtain ⟨g9, o9, e9, h9, _⟩ := h9
                  rw [e] at e9
                  injection e9 with e9
                  injection e9 with e9 _
                  have := HF0.out
                  omega)
                refine (HP2.out _ pp hr5 hb5).mono ?_
                rintro e w5 ⟨rfl, ho5⟩
                have HO5 : Hid (ROut d p w m2 w5) := Lib.hid (rout_trans (p1 := pp) (((Mod.of_ext HX2.out).trans HM4.out (fun i hi => .inl hi)).trans (mod_one _ w3.heap.size 2 (.int .i64 1)) (fun i hi => .inr (by rw [hi]; exact HF0.out))) (fun k hk => (HN4.out k hk).imp id (fun h => Nat.le_trans HX2.out.size h)) ho5)
                clear ho5 hr5 hb5
                go_wp2_with fail
                go_ret
                exact ⟨rfl, HO5.out⟩
              · have hne : (E1 != 0) = true := by simpa using h7
                have HQ := Lib.hid (store_one hse hP heq h7)
                rw [HQ.out]
                clear h hb ho hfew hk hlen HSE HQ hse h4 hwh hp hp1 h6 hE1 hm1 heq hP h7
                clear hvI
                go_enter Tryz.func23, Tryz.ntmps23
                go_wp2_with fail
                refine HA.out.mono ?_
                rintro e w1 ⟨rfl, rfl⟩
                go_wp2_with fail
                refine HL.out.mono ?_
                rintro e w2 ⟨A2, N2, k2, rfl, _, hx⟩
                have HX := Lib.hid hx
                clear hx
                go_wp2_with fail
                refine (HWH.out _ HX.out).mono ?_
                rintro e w3 ⟨rfl, hx⟩
                have HF0 := Lib.hid (HX.out.trans hx).size
                have HT := Lib.hid (heap_alloc_new w3 (.cells #[.int .i64 r, .int .i64 g, .int .i64 0, .int .i64 (vI + 1), .int .i64 (cn : Int)] 33))
                have HX := Lib.hid ((HX.out.trans hx).alloc (.cells #[.int .i64 r, .int .i64 g, .int .i64 0, .int .i64 (vI + 1), .int .i64 (cn : Int)] 33))
                clear hx
                obtain ⟨⟨p0, p1, p2, p3, p4⟩, q0, q1, q2, q3, q4⟩ := five_cells HT.out
                go_wp2_with fail
                have HX2 := HX
                have HT2 := HT
                refine (HP1.out _ HX2.out).mono ?_
                rintro e w4 ⟨rfl, ho4⟩
                have HO4 := Lib.hid (ho4.from HX2.out)
                clear ho4
                go_wp2_with fail
                go_ret
                exact ⟨rfl, HO4.out⟩
end Go.Proofs.YtlikhmhomkiadaaGreatDoor

namespace Go.Proofs.YtlikhmhomkiadaaGreatDoor
open Go Go.RowKit

/-- The cells of the act at a place of the list. -/
def C157 (w : World) (g o : Nat) (x : Act7) : Prop := ∀ k v, x.cells[k]? = some v → w.cell? ⟨g, o + k, none⟩ = some v
theorem acts6_one (w : World) (a : Act6) (h : a.Ok w w.heap.size) : Acts6 (w.alloc (.cells #[.bool a.sl, .int .i64 a.ta, .int .i64 a.tb, .int .i64 a.tc, .int .i64 a.td, .int .i64 a.te, .slice a.bA a.bn a.bc, .int .u8 (a.act.kind : Int), .int .i64 a.act.sec, .int .i64 a.act.num, .slice a.act.bA a.act.bn a.act.bc, .slice a.act.kA a.act.kn a.act.kc] 39)) (w.alloc (.cells #[.bool a.sl, .int .i64 a.ta, .int .i64 a.tb, .int .i64 a.tc, .int .i64 a.td, .int .i64 a.te, .slice a.bA a.bn a.bc, .int .u8 (a.act.kind : Int), .int .i64 a.act.sec, .int .i64 a.act.num, .slice a.act.bA a.act.bn a.act.bc, .slice a.act.kA a.act.kn a.act.kc] 39)).heap.size (some ⟨w.heap.size, 0, none⟩) 1 1 [a] := by
  refine ⟨rfl, Nat.le_refl _, by omega, fun b hb => ?_, fun _ => ⟨w.heap.size, 0, rfl, by simp, fun j b hb k v hv => ?_⟩, fun h => by cases h⟩
  · obtain rfl := List.mem_singleton.1 hb
    exact (h.below ((Ext.refl w).alloc _)).more ((Ext.refl w).alloc _).size
  · match j, hb with
    | 0, hb =>
      injection hb with hb
      subst hb
      rw [World.cell?_alloc_new]
      rw [show 0 + (0 * 12 + k) = k by omega]
      exact (List.getElem?_toArray ..).trans hv

/-- What Great answers. -/
def Great7E (n : Nat) (l : List Act7) (w : World) (e : Ending) (w' : World) : Prop := ∃ b : Bool, e = .returned (.bool b) ∧ Ext w w' ∧ (b = false → n ≤ 40 ∧ ∀ a ∈ l, a.bn ≤ 100 ∧ a.o.bn ≤ 100 ∧ a.o.act.bn ≤ 200 ∧ a.o.act.kn ≤ 100)
set_option maxRecDepth 100000 in
set_option maxHeartbeats 1600000 in
theorem greatA7_of {w : World} (A : Option Addr) (n c : Nat) (l : List Act7) (h : Ls Act7.cells 15 w w.heap.size A n c l) (ho : ∀ a ∈ l, a.Ok w w.heap.size) :
    Calls Tryz.prog 20 #[.slice A n c] w (Great7E n l w) := by
  have HA := Lib.hid h
  have HO := Lib.hid ho
  have hcap := h.cap
  have hmost := h.most
  have hn := Nat.zero_le n
  clear h ho
  go_enter Tryz.func20, Tryz.ntmps20
  by_cases hn40 : 40 < n
  · go_wp2_with fail
    go_ret
    exact ⟨true, rfl, Ext.refl _, fun h => by cases h⟩
  go_wp2_with fail
  go_loopw [3] (fun i wr => ∃ k : Nat, k ≤ n ∧ i = .int .i64 k ∧ Hid (Ext w wr) ∧ Hid (∀ a ∈ l.take k, a.bn ≤ 100 ∧ a.o.bn ≤ 100 ∧ a.o.act.bn ≤ 200 ∧ a.o.act.kn ≤ 100)) (fun i _ => n - (intOf i).toNat)
  case atStart => exact ⟨0, Nat.zero_le _, rfl, Lib.hid (Ext.refl _), Lib.hid fun a ha => by simp at ha⟩
  case round =>
    obtain ⟨k, hkn, rfl, HX, HT⟩ := hrel
    by_cases hlt : k < n
    · obtain ⟨g, o, a, rfl, hg, ha, hc⟩ := HA.out.at_ hlt
      have HAL := Lib.hid ha
      have HOK := Lib.hid (((HO.out a (List.mem_of_getElem? ha)).o.below HX.out).more HX.out.size)
      have c0 : wr.cell? ⟨g, o + k * 15, none⟩ = some (.int .u8 (a.k : Int)) := (Below.cell HX.out (p := ⟨g, o + k * 15, none⟩) hg).trans (hc 0 _ rfl)
      have c1 : wr.cell? ⟨g, o + k * 15 + 1, none⟩ = some (.int .i64 a.num) := (Below.cell HX.out (p := ⟨g, o + k * 15 + 1, none⟩) hg).trans (hc 1 _ rfl)
      have c2 : wr.cell? ⟨g, o + k * 15 + 2, none⟩ = some (.slice a.bA a.bn a.bc) := (Below.cell HX.out (p := ⟨g, o + k * 15 + 2, none⟩) hg).trans (hc 2 _ rfl)
      have c3 : wr.cell? ⟨g, o + k * 15 + 3, none⟩ = some (.bool a.o.sl) := (Below.cell HX.out (p := ⟨g, o + k * 15 + 3, none⟩) hg).trans (hc 3 _ rfl)
      have c4 : wr.cell? ⟨g, o + k * 15 + 4, none⟩ = some (.int .i64 a.o.ta) := (Below.cell HX.out (p := ⟨g, o + k * 15 + 4, none⟩) hg).trans (hc 4 _ rfl)
      have c5 : wr.cell? ⟨g, o + k * 15 + 5, none⟩ = some (.int .i64 a.o.tb) := (Below.cell HX.out (p := ⟨g, o + k * 15 + 5, none⟩) hg).trans (hc 5 _ rfl)
      have c6 : wr.cell? ⟨g, o + k * 15 + 6, none⟩ = some (.int .i64 a.o.tc) := (Below.cell HX.out (p := ⟨g, o + k * 15 + 6, none⟩) hg).trans (hc 6 _ rfl)
      have c7 : wr.cell? ⟨g, o + k * 15 + 7, none⟩ = some (.int .i64 a.o.td) := (Below.cell HX.out (p := ⟨g, o + k * 15 + 7, none⟩) hg).trans (hc 7 _ rfl)
      have c8 : wr.cell? ⟨g, o + k * 15 + 8, none⟩ = some (.int .i64 a.o.te) := (Below.cell HX.out (p := ⟨g, o + k * 15 + 8, none⟩) hg).trans (hc 8 _ rfl)
      have c9 : wr.cell? ⟨g, o + k * 15 + 9, none⟩ = some (.slice a.o.bA a.o.bn a.o.bc) := (Below.cell HX.out (p := ⟨g, o + k * 15 + 9, none⟩) hg).trans (hc 9 _ rfl)
      have c10 : wr.cell? ⟨g, o + k * 15 + 10, none⟩ = some (.int .u8 (a.o.act.kind : Int)) := (Below.cell HX.out (p := ⟨g, o + k * 15 + 10, none⟩) hg).trans (hc 10 _ rfl)
      have c11 : wr.cell? ⟨g, o + k * 15 + 11, none⟩ = some (.int .i64 a.o.act.sec) := (Below.cell HX.out (p := ⟨g, o + k * 15 + 11, none⟩) hg).trans (hc 11 _ rfl)
      have c12 : wr.cell? ⟨g, o + k * 15 + 12, none⟩ = some (.int .i64 a.o.act.num) := (Below.cell HX.out (p := ⟨g, o + k * 15 + 12, none⟩) hg).trans (hc 12 _ rfl)
      have c13 : wr.cell? ⟨g, o + k * 15 + 13, none⟩ = some (.slice a.o.act.bA a.o.act.bn a.o.act.bc) := (Below.cell HX.out (p := ⟨g, o + k * 15 + 13, none⟩) hg).trans (hc 13 _ rfl)
      have c14 : wr.cell? ⟨g, o + k * 15 + 14, none⟩ = some (.slice a.o.act.kA a.o.act.kn a.o.act.kc) := (Below.cell HX.out (p := ⟨g, o + k * 15 + 14, none⟩) hg).trans (hc 14 _ rfl)
      clear hc ha
      by_cases hb : 100 < a.bn
      · go_wp2_with fail
        go_ret
        exact ⟨true, rfl, HX.out, fun h => by cases h⟩
      · go_wp2_with fail
        refine (great6_of (Nat.le_refl _) _ 1 1 [a.o] (acts6_one wr a.o HOK.out)).mono ?_
        rintro e w2 ⟨b, rfl, hx, hgr⟩
        have HX2 := Lib.hid ((HX.out.alloc (.cells #[.bool a.o.sl, .int .i64 a.o.ta, .int .i64 a.o.tb, .int .i64 a.o.tc, .int .i64 a.o.td, .int .i64 a.o.te, .slice a.o.bA a.o.bn a.o.bc, .int .u8 (a.o.act.kind : Int), .int .i64 a.o.act.sec, .int .i64 a.o.act.num, .slice a.o.act.bA a.o.act.bn a.o.act.bc, .slice a.o.act.kA a.o.act.kn a.o.act.kc] 39)).trans hx)
        have HGR := Lib.hid hgr
        clear hgr hx c0 c1 c2 c3 c4 c5 c6 c7 c8 c9 c10 c11 c12 c13 c14
        cases b with
        | true =>
          go_wp2_with fail
          go_ret
          exact ⟨true, rfl, HX2.out, fun h => by cases h⟩
        | false =>
          go_wp2_with fail
          go_roundw
          case rel => exact ⟨k + 1, by omega, by go_num, HX2, Lib.hid fun b hb' => by
            rw [List.take_add_one, HAL.out] at hb'
            rcases List.mem_append.1 hb' with h | h
            · exact HT.out b h
            · simp only [Option.toList_some, List.mem_singleton] at h
              subst h
              have := (HGR.out (by trivial)).2 b.o (List.mem_singleton.2 rfl)
              exact ⟨by omega, this⟩⟩
          case measure => simp [intOf]; omega
    · go_wp2_with fail
      go_ret
      refine ⟨false, rfl, HX.out, fun _ => ⟨by omega, fun a ha => HT.out a ?_⟩⟩
      rw [List.take_of_length_le (by have := HA.out.len; omega)]
      exact ha
end Go.Proofs.YtlikhmhomkiadaaGreatDoor

namespace Go.Proofs.YtlikhmhomkiadaaGreatDoor
open Go Go.RowKit

theorem do5_step {w0 w : World} {d : Nat} {F : Nat → Prop} {m m2 : DM} (h : DK w0 w d F m) (a : Act5) (ha : a.Ok w0 w0.heap.size) (hn : a.bn ≤ 200) (hfew : m.waits.length ≤ 1000) {E : Int} (hact : m.act a.kind a.sec a.num a.bl a.kl = (E, m2)) :
    Calls Tryz.prog 38 #[.pointer (some ⟨d, 0, none⟩), .agg #[.int .u8 (a.kind : Int), .int .i64 a.sec, .int .i64 a.num, .slice a.bA a.bn a.bc, .slice a.kA a.kn a.kc]] w fun e w' => e = .returned (.int .i64 E) ∧ Step d F w m2 w' := by
  have hd := do_of h.disk a ((ha.below h.bel).more h.bel.size) (h.vs ha.keep) (by omega) (by omega)
  unfold actV at hd
  rw [hact] at hd
  exact hd.mono fun e w' ⟨h1, h2, h3⟩ => ⟨h1, h2, h3⟩
set_option maxRecDepth 100000 in
set_option maxHeartbeats 1600000 in
theorem do6_step_no {w0 w : World} {d : Nat} {F : Nat → Prop} {m : DM} (h : DK w0 w d F m) (x : Act6) (hx : x.Ok w0 w0.heap.size) (hs : x.sl = false) (hn : x.act.bn ≤ 200) (hfew : m.waits.length ≤ 1000) :
    Calls Tryz.prog 9 #[.pointer (some ⟨d, 0, none⟩), .agg #[.bool x.sl, .int .i64 x.ta, .int .i64 x.tb, .int .i64 x.tc, .int .i64 x.td, .int .i64 x.te, .slice x.bA x.bn x.bc, .int .u8 (x.act.kind : Int), .int .i64 x.act.sec, .int .i64 x.act.num, .slice x.act.bA x.act.bn x.act.bc, .slice x.act.kA x.act.kn x.act.kc]] w fun e w' => (∃ v, e = .returned v) ∧ Step d F w (m.act6 x) w' := by
  have hE := (Ext.refl w).alloc (box6 x)
  have hB := heap_alloc_new w (box6 x)
  obtain ⟨E, mz, hq⟩ : ∃ E mz, m.act x.act.kind x.act.sec x.act.num x.act.bl x.act.kl = (E, mz) := ⟨(m.act x.act.kind x.act.sec x.act.num x.act.bl x.act.kl).1, (m.act x.act.kind x.act.sec x.act.num x.act.bl x.act.kl).2, rfl⟩
  have hd := do5_step (h.ext hE) x.act hx.act hn hfew hq
  have HACT : Hid (m.act6 x = mz) := Lib.hid (by unfold DM.act6; rw [if_neg (by rw [hs]; simp), hq])
  obtain ⟨c0, _, _, _, _, _, _, c7, c8, c9, c10, c11⟩ := box6_cells hB
  rw [hs] at c0 ⊢
  have hBX : box6 x = .cells #[.bool false, .int .i64 x.ta, .int .i64 x.tb, .int .i64 x.tc, .int .i64 x.td, .int .i64 x.te, .slice x.bA x.bn x.bc, .int .u8 (x.act.kind : Int), .int .i64 x.act.sec, .int .i64 x.act.num, .slice x.act.bA x.act.bn x.act.bc, .slice x.act.kA x.act.kn x.act.kc] 39 := by unfold box6; rw [hs]
  rw [hBX] at c0 c7 c8 c9 c10 c11 hd hE
  have HD := Lib.hid hd
  have HE := Lib.hid hE
  clear hq
  clear h hx hd hE hB hBX
  go_enter Tryz.func9, Tryz.ntmps9
  go_wp2_with fail
  refine HD.out.mono ?_
  rintro e w1 ⟨rfl, hk⟩
  have HK := Lib.hid (Step.pre HE.out hk)
  clear hk
  go_wp2_with fail
  refine bodyPost_ret (results_none rfl _ _ _) rfl ?_
  exact ⟨⟨_, rfl⟩, by rw [HACT.out]; exact HK.out⟩
theorem do6_any {w0 w : World} {d : Nat} {F : Nat → Prop} {m : DM} (h : DK w0 w d F m) (hL : LaidT w0) (x : Act6) (hx : x.Ok w0 w0.heap.size) (hn : x.act.bn ≤ 200) (hfew : m.waits.length ≤ 1000) :
    Calls Tryz.prog 9 #[.pointer (some ⟨d, 0, none⟩), .agg #[.bool x.sl, .int .i64 x.ta, .int .i64 x.tb, .int .i64 x.tc, .int .i64 x.td, .int .i64 x.te, .slice x.bA x.bn x.bc, .int .u8 (x.act.kind : Int), .int .i64 x.act.sec, .int .i64 x.act.num, .slice x.act.bA x.act.bn x.act.bc, .slice x.act.kA x.act.kn x.act.kc]] w fun e w' => (∃ v, e = .returned v) ∧ Step d F w (m.act6 x) w' := by
  by_cases hs : x.sl = true
  · exact do6_step h hL x hx hs hfew
  · exact do6_step_no h x hx (by simpa using hs) hn hfew
end Go.Proofs.YtlikhmhomkiadaaGreatDoor
