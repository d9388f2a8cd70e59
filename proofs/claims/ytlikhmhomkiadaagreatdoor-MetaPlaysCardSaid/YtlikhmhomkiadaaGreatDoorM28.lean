/-
  The document's Store over the document's disk.
  What '!=' answers of two tags.
  Plain facts on metadata, without any program: which are valid; their bytes; what bytes are.
  The contracts of meta's small functions: within, nearest, May, isAbove.
-/
import Derived.Test.YtlikhmhomkiadaaGreatDoorM07
import Derived.Test.YtlikhmhomkiadaaGreatDoorM08
import Derived.Test.YtlikhmhomkiadaaGreatDoorM27
import Derived.IntWalk
namespace Go.Proofs.YtlikhmhomkiadaaGreatDoor
open Go Go.RowKit

theorem By.modR {p : Nat → Nat} {w w' : World} {A : Option Addr} {n cp : Nat} {l : List Nat} (h : By w A n cp l) (k : Mod (fun k => p k ≠ 0) w w') (ho : ∀ g o, A = some ⟨g, o, none⟩ → 0 < n → p g = 0) : By w' A n cp l := by
  refine ⟨h.len, h.cap, h.most, ⟨h.rd.1, fun hn => ?_⟩, Bs.nil_ h⟩
  obtain ⟨g, o, e, hg, hc⟩ := h.rd.2 hn
  refine ⟨g, o, e, Nat.lt_of_lt_of_le hg k.size, fun j x hx => ?_⟩
  rw [← hc j x hx]
  exact World.cell?_of_block (a := ⟨g, o + j, none⟩) (k.block g hg (by have := ho g o e (by have := h.len; omega); simp [this]))
theorem By.modG {F : Nat → Prop} {w w' : World} {A : Option Addr} {n cp : Nat} {l : List Nat} (h : By w A n cp l) (k : Mod F w w') (ho : ∀ g o, A = some ⟨g, o, none⟩ → 0 < n → ¬ F g) : By w' A n cp l := by
  refine ⟨h.len, h.cap, h.most, ⟨h.rd.1, fun hn => ?_⟩, Bs.nil_ h⟩
  obtain ⟨g, o, e, hg, hc⟩ := h.rd.2 hn
  refine ⟨g, o, e, Nat.lt_of_lt_of_le hg k.size, fun j x hx => ?_⟩
  rw [← hc j x hx]
  exact World.cell?_of_block (k.block g hg (ho g o e (by have := h.len; omega)))
theorem loadV_le {m : DM} (h : m.Ok) (r g : Int) : m.loadV r g ≤ 1099511627776 := by
  unfold DM.loadV
  split
  · unfold cellF
    split
    · rename_i ha
      have := (mayB_iff.1 (mine_copy (x := m.cb g 0) (p := 0) (read_sect h _) (atC_zero ha)).2.2.2.1)
      omega
    · split
      · rename_i ha
        have := (mayB_iff.1 (mine_copy (x := m.cb g 1) (p := 1) (read_sect h _) (atC_one ha)).2.2.2.1)
        omega
      · omega
  · omega
theorem rputC_waits (m : DM) (s : Int) (L : List Nat) : (m.putC s L).2.waits.length ≤ m.waits.length + 1 := by
  have hw : (m.write s L).2.waits.length ≤ m.waits.length + 1 := by
    unfold DM.write
    (repeat' split) <;> simp
  unfold DM.putC
  split
  · exact hw
  · refine Nat.le_trans ?_ hw
    generalize (m.write s L).2 = m1
    unfold DM.flush
    (repeat' split) <;> simp
theorem rstore_no {w : World} {d : Nat} {p : Nat → Nat} {m : DM} (h : RD w d p m) (r g c : Int) (A : Option Addr) (n cp : Nat) (hk : knownC m.size r g ≠ 0) :
    Calls Tryz.prog 23 #[.pointer (some ⟨d, 0, none⟩), .int .i64 r, .int .i64 g, .int .i64 c, .slice A n cp] w fun e w' => e = .returned (.int .i64 2) ∧ w = w' := by
  have ha := rask_of h r g
  rw [(askC_no (rd_size h).1 hk).1] at ha
  have HA := Lib.hid ha
  clear h hk ha
  go_enter Tryz.func23, Tryz.ntmps23
  go_wp2_with fail
  refine HA.out.mono ?_
  rintro e w1 ⟨rfl, rfl⟩
  go_wp2_with fail
  go_ret
  exact ⟨rfl, rfl⟩
theorem store_err {m : DM} {r g c E : Int} {b : List Nat} (h : m.storeE r g c b.length = E) (h0 : E ≠ 0) : m.store r g c b = (E, m) := by
  unfold DM.store
  rw [if_pos (by rw [h]; exact h0), h]
theorem store_one {m m1 : DM} {r g P E1 : Int} {cn : Nat} {b : List Nat} (h : m.storeE r g (cn : Int) b.length = 0) (hP : firstP r g (m.cb g 0) (m.cb g 1) = P) (h1 : m.putC (firstS g P) (sealC r g P (m.loadV r g + 1) cn b) = (E1, m1)) (h0 : E1 ≠ 0) : m.store r g (cn : Int) b = (E1, m1) := by
  unfold DM.store DM.puts2
  rw [if_neg (by rw [h]; simp), hP, Int.toNat_natCast, h1]
  simp [h0]
theorem store_two {m m1 m2 : DM} {r g P E2 : Int} {cn : Nat} {b : List Nat} (h : m.storeE r g (cn : Int) b.length = 0) (hP : firstP r g (m.cb g 0) (m.cb g 1) = P) (h1 : m.putC (firstS g P) (sealC r g P (m.loadV r g + 1) cn b) = (0, m1)) (h2 : m1.putC (firstS g (1 - P)) (sealC r g (1 - P) (m.loadV r g + 1) cn b) = (E2, m2)) : m.store r g (cn : Int) b = (E2, m2) := by
  unfold DM.store DM.puts2
  rw [if_neg (by rw [h]; simp), hP, Int.toNat_natCast, h1]
  simp only [ne_eq, not_true_eq_false, if_false]
  exact h2

set_option maxRecDepth 100000 in
set_option maxHeartbeats 1600000 in
theorem rstore_of {w : World} {d : Nat} {p : Nat → Nat} {m : DM} (h : RD w d p m) (r g c : Int) (A : Option Addr) (n cp : Nat) (body : List Nat) (hb : By w A n cp body) (ho : ∀ g o, A = some ⟨g, o, none⟩ → 0 < n → p g = 0) (hfew : m.waits.length + 2 ≤ 1000000) (hk : knownC m.size r g = 0) :
    Calls Tryz.prog 23 #[.pointer (some ⟨d, 0, none⟩), .int .i64 r, .int .i64 g, .int .i64 c, .slice A n cp] w fun e w' => e = .returned (.int .i64 (m.store r g c body).1) ∧ ROut d p w (m.store r g c body).2 w' := by
  have ha := rask_of h r g
  rw [askC_yes hk] at ha
  have HA := Lib.hid ha
  have H := Lib.hid h
  have hlen := hb.len
  have hcap := hb.cap
  have hmost := hb.most
  have HSE : Hid (m.storeE r g c body.length = if c < 1 ∨ 1099511627776 < c then 2 else if 43 < n then 3 else if m.loadE r g ≠ 0 then m.loadE r g else if m.loadV r g = 1099511627776 then 4 else 0) := Lib.hid (by rw [hlen]; rfl)
  have HL := Lib.hid (rload_of h r g (by omega) hk)
  clear ha
  by_cases h1 : c < 1
  · have HQ := Lib.hid (store_err (b := body) (by rw [HSE.out, if_pos (.inl h1)]) (by omega) : m.store r g c body = (2, m))
    rw [HQ.out]
    clear h hb ho hfew hk hlen HSE HQ
    go_enter Tryz.func23, Tryz.ntmps23
    go_wp2_with fail
    refine HA.out.mono ?_
    rintro e w1 ⟨rfl, rfl⟩
    go_wp2_with fail
    go_ret
    exact ⟨rfl, rout_refl H.out (Ext.refl _)⟩
  · by_cases h2 : 1099511627776 < c
    · have HQ := Lib.hid (store_err (b := body) (by rw [HSE.out, if_pos (.inr h2)]) (by omega) : m.store r g c body = (2, m))
      rw [HQ.out]
      clear h hb ho hfew hk hlen HSE HQ
      go_enter Tryz.func23, Tryz.ntmps23
      go_wp2_with fail
      refine HA.out.mono ?_
      rintro e w1 ⟨rfl, rfl⟩
      go_wp2_with fail
      go_ret
      exact ⟨rfl, rout_refl H.out (Ext.refl _)⟩
    · by_cases h3 : 43 < n
      · have HQ := Lib.hid (store_err (b := body) (by rw [HSE.out, if_neg (by omega), if_pos h3]) (by omega) : m.store r g c body = (3, m))
        rw [HQ.out]
        clear h hb ho hfew hk hlen HSE HQ
        go_enter Tryz.func23, Tryz.ntmps23
        go_wp2_with fail
        refine HA.out.mono ?_
        rintro e w1 ⟨rfl, rfl⟩
        go_wp2_with fail
        go_ret
        exact ⟨rfl, rout_refl H.out (Ext.refl _)⟩
      · by_cases h4 : m.loadE r g ≠ 0
        · obtain ⟨E, hE⟩ : ∃ E, m.loadE r g = E := ⟨_, rfl⟩
          rw [hE] at h4 HL HSE
          have HQ := Lib.hid (store_err (b := body) (by rw [HSE.out, if_neg (by omega), if_neg h3, if_pos h4]) (by exact h4) : m.store r g c body = (E, m))
          rw [HQ.out]
          have hne : (E != 0) = true := by simpa using h4
          clear h hb ho hfew hk hlen HSE HQ hE h4
          go_enter Tryz.func23, Tryz.ntmps23
          go_wp2_with fail
          refine HA.out.mono ?_
          rintro e w1 ⟨rfl, rfl⟩
          go_wp2_with fail
          refine HL.out.mono ?_
          rintro e w2 ⟨A2, N2, k2, rfl, _, hx⟩
          have HX := Lib.hid hx
          clear hx
          go_wp2_with fail
          go_ret
          exact ⟨rfl, rout_refl H.out HX.out⟩
        · by_cases h5 : m.loadV r g = 1099511627776
          · have HQ := Lib.hid (store_err (b := body) (by rw [HSE.out, if_neg (by omega), if_neg h3, if_neg (by simpa using h4), if_pos h5]) (by omega) : m.store r g c body = (4, m))
            rw [HQ.out]
            have h4 : m.loadE r g = 0 := by simpa using h4
            rw [h4, h5] at HL
            clear h hb ho hfew hk hlen HSE HQ h4 h5
            go_enter Tryz.func23, Tryz.ntmps23
            go_wp2_with fail
            refine HA.out.mono ?_
            rintro e w1 ⟨rfl, rfl⟩
            go_wp2_with fail
            refine HL.out.mono ?_
            rintro e w2 ⟨A2, N2, k2, rfl, _, hx⟩
            have HX := Lib.hid hx
            clear hx
            go_wp2_with fail
            go_ret
            exact ⟨rfl, rout_refl H.out HX.out⟩
          · have h4 : m.loadE r g = 0 := by simpa using h4
            obtain ⟨cn, rfl⟩ := Int.eq_ofNat_of_zero_le (show 0 ≤ c by omega)
            have hse : m.storeE r g (cn : Int) body.length = 0 := by rw [HSE.out, if_neg (by omega), if_neg h3, if_neg (by simpa using h4), if_neg h5]
            have hwh := fun V (hx : Ext w V) => rwhich_of (h.ext hx) r g (by omega)
            obtain ⟨vI, hvI⟩ : ∃ vI : Int, (m.loadV r g : Int) = vI := ⟨_, rfl⟩
            have hge : ¬ (1099511627776 : Int) ≤ vI := by have := loadV_le (rd_size h).2.2 r g; omega
            have hvw : IntKind.i64.wrap (vI + 1) = vI + 1 := IntWalk.i64_in _ (by have := loadV_le (rd_size h).2.2 r g; omega)
            have hp := fun (P : Int) (V : World) (hV : Ext w V) => rput_of (h.ext hV) r g P (vI + 1) (cn : Int) A n cp body (hb.ext hV) (by omega)
            have hcc : cellE r g (m.cb g 0) (m.cb g 1) = 0 := by have := h4; unfold DM.loadE at this; split at this <;> first | (cases this; done) | exact this
            rw [hcc] at hwh
            rw [h4, hvI] at HL
            have HB := Lib.hid hb
            have HO := Lib.hid ho
            have HF := Lib.hid hfew
            clear hcc h5
            by_cases h6 : atC r g (m.cb g 0) (m.cb g 1) = 0
            · have hP : firstP r g (m.cb g 0) (m.cb g 1) = 1 := by unfold firstP; rw [if_pos h6]
              rw [h6] at hwh
              have HWH := Lib.hid hwh
              obtain ⟨E1, hE1⟩ : ∃ E1, (m.putC (firstS g 1) (sealC r g 1 (m.loadV r g + 1) cn body)).1 = E1 := ⟨_, rfl⟩
              obtain ⟨m1, hm1⟩ : ∃ m1, (m.putC (firstS g 1) (sealC r g 1 (m.loadV r g + 1) cn body)).2 = m1 := ⟨_, rfl⟩
              have heq : m.putC (firstS g 1) (sealC r g 1 (m.loadV r g + 1) cn body) = (E1, m1) := by rw [← hE1, ← hm1]
              have hp1 := hp 1
              rw [show sealL r g 1 (vI + 1) (cn : Int) body 1 = sealC r g 1 (m.loadV r g + 1) cn body by rw [← hvI]; rfl, heq] at hp1
              have HP1 := Lib.hid hp1
              by_cases h7 : E1 = 0
              · subst h7
                have hp2 := fun (V2 : World) (pp : Nat → Nat) (hr : RD V2 d pp m1) (hb2 : By V2 A n cp body) => rput_of hr r g (1 - 1) (vI + 1) (cn : Int) A n cp body hb2
                rw [show sealL r g (1 - 1) (vI + 1) (cn : Int) body 1 = sealC r g (1 - 1) (m.loadV r g + 1) cn body by rw [← hvI]; rfl] at hp2
                have hwt : m1.waits.length + 1 ≤ 1000000 := by
                  have := rputC_waits m (firstS g 1) (sealC r g 1 (m.loadV r g + 1) cn body)
                  rw [heq] at this
                  have h9 : m1.waits.length ≤ m.waits.length + 1 := this
                  have := HF.out
                  omega
                obtain ⟨E2, hE2⟩ : ∃ E2, (m1.putC (firstS g (1 - 1)) (sealC r g (1 - 1) (m.loadV r g + 1) cn body)).1 = E2 := ⟨_, rfl⟩
                obtain ⟨m2, hm2⟩ : ∃ m2, (m1.putC (firstS g (1 - 1)) (sealC r g (1 - 1) (m.loadV r g + 1) cn body)).2 = m2 := ⟨_, rfl⟩
                have heq2 : m1.putC (firstS g (1 - 1)) (sealC r g (1 - 1) (m.loadV r g + 1) cn body) = (E2, m2) := by rw [← hE2, ← hm2]
                rw [heq2] at hp2
                have HP2 : Hid (∀ (V2 : World) (pp : Nat → Nat) (hr : RD V2 d pp m1) (hb2 : By V2 A n cp body), _) := Lib.hid fun V2 pp hr hb2 => hp2 V2 pp hr hb2 hwt
                have HQ := Lib.hid (store_two hse hP heq heq2)
                rw [HQ.out]
                clear h hb ho hfew hk hlen HSE HQ hse h4 hwh hp hp1 hp2 hwt h6 hE1 hm1 hE2 hm2 heq heq2 hP
                clear hvI
                go_enter Tryz.func23, Tryz.ntmps23
                go_wp2_with fail
                refine HA.out.mono ?_
                rintro e w1 ⟨rfl, rfl⟩
                go_wp2_with fail
                refine HL.out.mono ?_
                rintro e w2 ⟨A2, N2, k2, rfl, _, hx⟩
                have HX := Lib.hid hx
                clear hx
                go_wp2_with fail
                refine (HWH.out _ HX.out).mono ?_
                rintro e w3 ⟨rfl, hx⟩
                have HF0 := Lib.hid (HX.out.trans hx).size
                have HT := Lib.hid (heap_alloc_new w3 (.cells #[.int .i64 r, .int .i64 g, .int .i64 0, .int .i64 (vI + 1), .int .i64 (cn : Int)] 33))
                have HX2 := Lib.hid ((HX.out.trans hx).alloc (.cells #[.int .i64 r, .int .i64 g, .int .i64 1, .int .i64 (vI + 1), .int .i64 (cn : Int)] 33))
                have HT2 := Lib.hid (heap_alloc_new w3 (.cells #[.int .i64 r, .int .i64 g, .int .i64 1, .int .i64 (vI + 1), .int .i64 (cn : Int)] 33))
                have HX := Lib.hid ((HX.out.trans hx).alloc (.cells #[.int .i64 r, .int .i64 g, .int .i64 0, .int .i64 (vI + 1), .int .i64 (cn : Int)] 33))
                clear hx
                obtain ⟨⟨p0, p1, p2, p3, p4⟩, q0, q1, q2, q3, q4⟩ := five_cells HT.out
                go_wp2_with fail
                refine (HP1.out _ HX2.out).mono ?_
                rintro e w4 ⟨rfl, ho4⟩
                obtain ⟨pp, r4, hm4, hn4⟩ := ho4
                have HR4 := Lib.hid r4
                have HM4 := Lib.hid hm4
                have HN4 := Lib.hid hn4
                have HT4 := Lib.hid (heap_mod HT2.out hm4 (by intro hp; have := H.out.2 _ hp; have := HF0.out; omega))
                have HB4 := Lib.hid ((HB.out.ext HX2.out).modR hm4 HO.out)
                have HNW : Hid (∀ i, pp i ≠ 0 → i = w3.heap.size → False) := Lib.hid (by
                  intro i hi he
                  subst he
                  rcases r4.1 with ⟨qq, hq⟩
                  rcases hn4 _ hi with h | h
                  · have h1 := H.out.2 _ h
                    have h2 := HF0.out
                    omega
                  · have h1 := (Array.getElem?_eq_some_iff.1 HT2.out).1
                    omega)
                clear r4 hm4 hn4
                clear p0 p1 p2 p3 p4 q0 q1 q2 q3 q4
                obtain ⟨⟨p0, p1, p2, p3, p4⟩, q0, q1, q2, q3, q4⟩ := five_cells HT4.out
                go_wp2_with fail
                have hr5 : RD (w4.setCell ⟨w3.heap.size, 2, none⟩ (.int .i64 0)) d pp m1 := HR4.out.mod (F := fun k => k = w3.heap.size) (mod_one _ _ _ _) (fun i hi he => HNW.out i hi he)
                have hb5 : By (w4.setCell ⟨w3.heap.size, 2, none⟩ (.int .i64 0)) A n cp body := HB4.out.modG (F := fun k => k = w3.heap.size) (mod_one _ _ _ _) (fun gg o e hn he => by
                  subst he
                  have h9 := HB.out.rd.2 (by have := HB.out.len; omega)
                  obtain ⟨g9, o9, e9, h9, _⟩ := h9
                  rw [e] at e9
                  injection e9 with e9
                  injection e9 with e9 _
                  have := HF0.out
                  omega)
                refine (HP2.out _ pp hr5 hb5).mono ?_
                rintro e w5 ⟨rfl, ho5⟩
                have HO5 : Hid (ROut d p w m2 w5) := Lib.hid (rout_trans (p1 := pp) (((Mod.of_ext HX2.out).trans HM4.out (fun i hi => .inl hi)).trans (mod_one _ w3.heap.size 2 (.int .i64 0)) (fun i hi => .inr (by rw [hi]; exact HF0.out))) (fun k hk => (HN4.out k hk).imp id (fun h => Nat.le_trans HX2.out.size h)) ho5)
                clear ho5 hr5 hb5
                go_wp2_with fail
                go_ret
                exact ⟨rfl, HO5.out⟩
              · have hne : (E1 != 0) = true := by simpa using h7
                have HQ := Lib.hid (store_one hse hP heq h7)
                rw [HQ.out]
                clear h hb ho hfew hk hlen HSE HQ hse h4 hwh hp hp1 h6 hE1 hm1 heq hP h7
                clear hvI
                go_enter Tryz.func23, Tryz.ntmps23
                go_wp2_with fail
                refine HA.out.mono ?_
                rintro e w1 ⟨rfl, rfl⟩
                go_wp2_with fail
                refine HL.out.mono ?_
                rintro e w2 ⟨A2, N2, k2, rfl, _, hx⟩
                have HX := Lib.hid hx
                clear hx
                go_wp2_with fail
                refine (HWH.out _ HX.out).mono ?_
                rintro e w3 ⟨rfl, hx⟩
                have HF0 := Lib.hid (HX.out.trans hx).size
                have HT := Lib.hid (heap_alloc_new w3 (.cells #[.int .i64 r, .int .i64 g, .int .i64 0, .int .i64 (vI + 1), .int .i64 (cn : Int)] 33))
                have HX2 := Lib.hid ((HX.out.trans hx).alloc (.cells #[.int .i64 r, .int .i64 g, .int .i64 1, .int .i64 (vI + 1), .int .i64 (cn : Int)] 33))
                have HT2 := Lib.hid (heap_alloc_new w3 (.cells #[.int .i64 r, .int .i64 g, .int .i64 1, .int .i64 (vI + 1), .int .i64 (cn : Int)] 33))
                have HX := Lib.hid ((HX.out.trans hx).alloc (.cells #[.int .i64 r, .int .i64 g, .int .i64 0, .int .i64 (vI + 1), .int .i64 (cn : Int)] 33))
                clear hx
                obtain ⟨⟨p0, p1, p2, p3, p4⟩, q0, q1, q2, q3, q4⟩ := five_cells HT.out
                go_wp2_with fail
                refine (HP1.out _ HX2.out).mono ?_
                rintro e w4 ⟨rfl, ho4⟩
                have HO4 := Lib.hid (ho4.from HX2.out)
                clear ho4
                go_wp2_with fail
                go_ret
                exact ⟨rfl, HO4.out⟩
            · have hP : firstP r g (m.cb g 0) (m.cb g 1) = 0 := by unfold firstP; rw [if_neg h6]
              have hic : (atC r g (m.cb g 0) (m.cb g 1) == 0) = false := by simpa using h6
              generalize atC r g (m.cb g 0) (m.cb g 1) = ic at hwh hic
              have HWH := Lib.hid hwh
              obtain ⟨E1, hE1⟩ : ∃ E1, (m.putC (firstS g 0) (sealC r g 0 (m.loadV r g + 1) cn body)).1 = E1 := ⟨_, rfl⟩
              obtain ⟨m1, hm1⟩ : ∃ m1, (m.putC (firstS g 0) (sealC r g 0 (m.loadV r g + 1) cn body)).2 = m1 := ⟨_, rfl⟩
              have heq : m.putC (firstS g 0) (sealC r g 0 (m.loadV r g + 1) cn body) = (E1, m1) := by rw [← hE1, ← hm1]
              have hp1 := hp 0
              rw [show sealL r g 0 (vI + 1) (cn : Int) body 1 = sealC r g 0 (m.loadV r g + 1) cn body by rw [← hvI]; rfl, heq] at hp1
              have HP1 := Lib.hid hp1
              by_cases h7 : E1 = 0
              · subst h7
                have hp2 := fun (V2 : World) (pp : Nat → Nat) (hr : RD V2 d pp m1) (hb2 : By V2 A n cp body) => rput_of hr r g (1 - 0) (vI + 1) (cn : Int) A n cp body hb2
                rw [show sealL r g (1 - 0) (vI + 1) (cn : Int) body 1 = sealC r g (1 - 0) (m.loadV r g + 1) cn body by rw [← hvI]; rfl] at hp2
                have hwt : m1.waits.length + 1 ≤ 1000000 := by
                  have := rputC_waits m (firstS g 0) (sealC r g 0 (m.loadV r g + 1) cn body)
                  rw [heq] at this
                  have h9 : m1.waits.length ≤ m.waits.length + 1 := this
                  have := HF.out
                  omega
                obtain ⟨E2, hE2⟩ : ∃ E2, (m1.putC (firstS g (1 - 0)) (sealC r g (1 - 0) (m.loadV r g + 1) cn body)).1 = E2 := ⟨_, rfl⟩
                obtain ⟨m2, hm2⟩ : ∃ m2, (m1.putC (firstS g (1 - 0)) (sealC r g (1 - 0) (m.loadV r g + 1) cn body)).2 = m2 := ⟨_, rfl⟩
                have heq2 : m1.putC (firstS g (1 - 0)) (sealC r g (1 - 0) (m.loadV r g + 1) cn body) = (E2, m2) := by rw [← hE2, ← hm2]
                rw [heq2] at hp2
                have HP2 : Hid (∀ (V2 : World) (pp : Nat → Nat) (hr : RD V2 d pp m1) (hb2 : By V2 A n cp body), _) := Lib.hid fun V2 pp hr hb2 => hp2 V2 pp hr hb2 hwt
                have HQ := Lib.hid (store_two hse hP heq heq2)
                rw [HQ.out]
                clear h hb ho hfew hk hlen HSE HQ hse h4 hwh hp hp1 hp2 hwt h6 hE1 hm1 hE2 hm2 heq heq2 hP
                clear hvI
                go_enter Tryz.func23, Tryz.ntmps23
                go_wp2_with fail
                refine HA.out.mono ?_
                rintro e w1 ⟨rfl, rfl⟩
                go_wp2_with fail
                refine HL.out.mono ?_
                rintro e w2 ⟨A2, N2, k2, rfl, _, hx⟩
                have HX := Lib.hid hx
                clear hx
                go_wp2_with fail
                refine (HWH.out _ HX.out).mono ?_
                rintro e w3 ⟨rfl, hx⟩
                have HF0 := Lib.hid (HX.out.trans hx).size
                have HT := Lib.hid (heap_alloc_new w3 (.cells #[.int .i64 r, .int .i64 g, .int .i64 0, .int .i64 (vI + 1), .int .i64 (cn : Int)] 33))
                have HX := Lib.hid ((HX.out.trans hx).alloc (.cells #[.int .i64 r, .int .i64 g, .int .i64 0, .int .i64 (vI + 1), .int .i64 (cn : Int)] 33))
                clear hx
                obtain ⟨⟨p0, p1, p2, p3, p4⟩, q0, q1, q2, q3, q4⟩ := five_cells HT.out
                go_wp2_with fail
                have HX2 := HX
                have HT2 := HT
                refine (HP1.out _ HX2.out).mono ?_
                rintro e w4 ⟨rfl, ho4⟩
                obtain ⟨pp, r4, hm4, hn4⟩ := ho4
                have HR4 := Lib.hid r4
                have HM4 := Lib.hid hm4
                have HN4 := Lib.hid hn4
                have HT4 := Lib.hid (heap_mod HT2.out hm4 (by intro hp; have := H.out.2 _ hp; have := HF0.out; omega))
                have HB4 := Lib.hid ((HB.out.ext HX2.out).modR hm4 HO.out)
                have HNW : Hid (∀ i, pp i ≠ 0 → i = w3.heap.size → False) := Lib.hid (by
                  intro i hi he
                  subst he
                  rcases r4.1 with ⟨qq, hq⟩
                  rcases hn4 _ hi with h | h
                  · have h1 := H.out.2 _ h
                    have h2 := HF0.out
                    omega
                  · have h1 := (Array.getElem?_eq_some_iff.1 HT2.out).1
                    omega)
                clear r4 hm4 hn4
                clear p0 p1 p2 p3 p4 q0 q1 q2 q3 q4
                obtain ⟨⟨p0, p1, p2, p3, p4⟩, q0, q1, q2, q3, q4⟩ := five_cells HT4.out
                go_wp2_with fail
                have hr5 : RD (w4.setCell ⟨w3.heap.size, 2, none⟩ (.int .i64 1)) d pp m1 := HR4.out.mod (F := fun k => k = w3.heap.size) (mod_one _ _ _ _) (fun i hi he => HNW.out i hi he)
                have hb5 : By (w4.setCell ⟨w3.heap.size, 2, none⟩ (.int .i64 1)) A n cp body := HB4.out.modG (F := fun k => k = w3.heap.size) (mod_one _ _ _ _) (fun gg o e hn he => by
                  subst he
                  have h9 := HB.out.rd.2 (by have := HB.out.len; omega)
                  obtain ⟨g9, o9, e9, h9, _⟩ := h9
                  rw [e] at e9
                  injection e9 with e9
                  injection e9 with e9 _
                  have := HF0.out
                  omega)
                refine (HP2.out _ pp hr5 hb5).mono ?_
                rintro e w5 ⟨rfl, ho5⟩
                have HO5 : Hid (ROut d p w m2 w5) := Lib.hid (rout_trans (p1 := pp) (((Mod.of_ext HX2.out).trans HM4.out (fun i hi => .inl hi)).trans (mod_one _ w3.heap.size 2 (.int .i64 1)) (fun i hi => .inr (by rw [hi]; exact HF0.out))) (fun k hk => (HN4.out k hk).imp id (fun h => Nat.le_trans HX2.out.size h)) ho5)
                clear ho5 hr5 hb5
                go_wp2_with fail
                go_ret
                exact ⟨rfl, HO5.out⟩
              · have hne : (E1 != 0) = true := by simpa using h7
                have HQ := Lib.hid (store_one hse hP heq h7)
                rw [HQ.out]
                clear h hb ho hfew hk hlen HSE HQ hse h4 hwh hp hp1 h6 hE1 hm1 heq hP h7
                clear hvI
                go_enter Tryz.func23, Tryz.ntmps23
                go_wp2_with fail
                refine HA.out.mono ?_
                rintro e w1 ⟨rfl, rfl⟩
                go_wp2_with fail
                refine HL.out.mono ?_
                rintro e w2 ⟨A2, N2, k2, rfl, _, hx⟩
                have HX := Lib.hid hx
                clear hx
                go_wp2_with fail
                refine (HWH.out _ HX.out).mono ?_
                rintro e w3 ⟨rfl, hx⟩
                have HF0 := Lib.hid (HX.out.trans hx).size
                have HT := Lib.hid (heap_alloc_new w3 (.cells #[.int .i64 r, .int .i64 g, .int .i64 0, .int .i64 (vI + 1), .int .i64 (cn : Int)] 33))
                have HX := Lib.hid ((HX.out.trans hx).alloc (.cells #[.int .i64 r, .int .i64 g, .int .i64 0, .int .i64 (vI + 1), .int .i64 (cn : Int)] 33))
                clear hx
                obtain ⟨⟨p0, p1, p2, p3, p4⟩, q0, q1, q2, q3, q4⟩ := five_cells HT.out
                go_wp2_with fail
                have HX2 := HX
                have HT2 := HT
                refine (HP1.out _ HX2.out).mono ?_
                rintro e w4 ⟨rfl, ho4⟩
                have HO4 := Lib.hid (ho4.from HX2.out)
                clear ho4
                go_wp2_with fail
                go_ret
                exact ⟨rfl, HO4.out⟩
end Go.Proofs.YtlikhmhomkiadaaGreatDoor

namespace Go.Proofs.YtlikhmhomkiadaaGreatDoor
set_option maxRecDepth 100000
open Go Go.RowKit

end Go.Proofs.YtlikhmhomkiadaaGreatDoor

namespace Go.Proofs.YtlikhmhomkiadaaGreatDoor
set_option maxRecDepth 100000
open Go

/-- Which metadata are valid. -/
def mayU (a b c : Int) : Bool := decide (((a = 0 ∧ b = 0) ∨ (1 ≤ a ∧ a ≤ 1099511627776 ∧ 0 ≤ b ∧ b ≤ 6)) ∧ 1 ≤ c ∧ c ≤ 1099511627776)
theorem mayU_iff {a b c : Int} : mayU a b c = true ↔ (((a = 0 ∧ b = 0) ∨ (1 ≤ a ∧ a ≤ 1099511627776 ∧ 0 ≤ b ∧ b ≤ 6)) ∧ 1 ≤ c ∧ c ≤ 1099511627776) := by unfold mayU; exact decide_eq_true_iff
/-- The nearest valid metadata's numbers. -/
def nuA (a b : Int) : Int := if a = 0 ∧ b = 0 then a else max 1 (min a 1099511627776)
def nuB (a b : Int) : Int := if a = 0 ∧ b = 0 then b else max 0 (min b 6)
def nuC (c : Int) : Int := max 1 (min c 1099511627776)
theorem nearU_iff (a b c : Int) : (a = nuA a b ∧ b = nuB a b ∧ c = nuC c) ↔ mayU a b c = true := by
  rw [mayU_iff]
  unfold nuA nuB nuC
  by_cases h : a = 0 ∧ b = 0
  · rw [if_pos h, if_pos h]
    omega
  · rw [if_neg h, if_neg h]
    omega
theorem nearU_eq (a b c : Int) : (a == nuA a b && (b == nuB a b && c == nuC c)) = mayU a b c := by
  rw [Bool.eq_iff_iff, ← nearU_iff]
  simp

/-- Is the ballot x, y above a, b? -/
def abvB (x y a b : Int) : Bool := if x = a then decide (b < y) else decide (a < x)
def promOk (a b c x y : Int) : Bool := mayU a b c && (mayU x y c && abvB x y a b)
/-- Their numbers, the widths of these, and the bytes of the first k of them. -/
def uFld (a b c : Nat) : Nat → Nat
  | 0 => a
  | 1 => b
  | _ => c
def uW : Nat → Nat
  | 0 => 6
  | 1 => 1
  | _ => 6
def uPre (f : Nat → Nat) : Nat → List Nat
  | 0 => []
  | k + 1 => uPre f k ++ digs (uW k) (f k)
theorem uW_le (k : Nat) : uW k ≤ 6 := by
  match k with
  | 0 | 1 => decide
  | _ + 2 => exact Nat.le_refl _
theorem uPre_len_le (f : Nat → Nat) (k : Nat) : (uPre f k).length ≤ 6 * k := by
  induction k with
  | zero => simp [uPre]
  | succ k ih =>
    have := uW_le k
    simp only [uPre, List.length_append, digs_length]
    omega
/-- The bytes of metadata. -/
def uBytes (a b c : Nat) : List Nat := uPre (uFld a b c) 3
theorem uBytes_len (a b c : Nat) : (uBytes a b c).length = 13 := by simp [uBytes, uPre, digs_length, uW]
theorem uFld_fits {a b c : Nat} (h : mayU a b c = true) (k : Nat) : fitsB (uW k) (uFld a b c k) = true := by
  rw [mayU_iff] at h
  refine fits_iff.2 ?_
  match k with
  | 0 => exact ⟨rfl, by omega, by show a < 281474976710656; omega⟩
  | 1 => exact ⟨rfl, by omega, by show b < 256; omega⟩
  | _ + 2 => exact ⟨rfl, by omega, by show c < 281474976710656; omega⟩
theorem uBytes_eq {a b c : Nat} (h : b < 256) : uBytes a b c = digs 6 a ++ [b] ++ digs 6 c := by
  simp only [uBytes, uPre, uW, uFld, List.nil_append]
  rw [show digs 1 b = [b] by simp [digs]; omega]
theorem mayU_nat {a b c : Int} (h : mayU a b c = true) : ∃ a' b' c' : Nat, a = a' ∧ b = b' ∧ c = c' := by
  rw [mayU_iff] at h
  obtain ⟨a', rfl⟩ := Int.eq_ofNat_of_zero_le (show 0 ≤ a by omega)
  obtain ⟨b', rfl⟩ := Int.eq_ofNat_of_zero_le (show 0 ≤ b by omega)
  obtain ⟨c', rfl⟩ := Int.eq_ofNat_of_zero_le (show 0 ≤ c by omega)
  exact ⟨a', b', c', rfl, rfl, rfl⟩

/-- Where the numbers begin, and what they are. -/
def uPos : Nat → Nat
  | 0 => 0
  | 1 => 6
  | 2 => 7
  | _ => 13
def uNum (l : List Nat) (k : Nat) : Nat := num ((l.drop (uPos k)).take (uW k))
theorem uPos_step {k : Nat} (h : k < 3) : uPos (k + 1) = uPos k + uW k := by
  have hj' : k = 0 ∨ k = 1 ∨ k = 2 := by omega
  rcases hj' with rfl | rfl | rfl <;> rfl
theorem uPos_le (k : Nat) : uPos k ≤ 13 := by unfold uPos; split <;> omega
theorem uW_ok (k : Nat) : wOk (uW k) = true := by
  match k with
  | 0 | 1 => rfl
  | _ + 2 => rfl
/-- Are the bytes those of valid metadata? -/
def uV (l : List Nat) : Bool := decide (l.length = 13) && mayU (uNum l 0) (uNum l 1) (uNum l 2)
/-- What Parse answers. -/
def uF (l : List Nat) (k : Nat) : Nat := if uV l = true then uNum l k else 0
def uE (l : List Nat) : Int := if uV l = true then 0 else 80
theorem uF_yes {l : List Nat} (h : uV l = true) (k : Nat) : uF l k = uNum l k := by unfold uF; rw [if_pos h]
theorem uE_yes {l : List Nat} (h : uV l = true) : uE l = 0 := by unfold uE; rw [if_pos h]
theorem uF_no {l : List Nat} (h : uV l = false) (k : Nat) : uF l k = 0 := by unfold uF; rw [if_neg (by rw [h]; simp)]
theorem uE_no {l : List Nat} (h : uV l = false) : uE l = 80 := by unfold uE; rw [if_neg (by rw [h]; simp)]
theorem uV_len {l : List Nat} (h : l.length ≠ 13) : uV l = false := by unfold uV; simp [h]
theorem uV_may {l : List Nat} (h : mayU (uNum l 0) (uNum l 1) (uNum l 2) = false) : uV l = false := by unfold uV; simp [h]
theorem uV_both {l : List Nat} (h : l.length = 13) (hm : mayU (uNum l 0) (uNum l 1) (uNum l 2) = true) : uV l = true := by unfold uV; simp [h, hm]
theorem uV_parts {l : List Nat} (h : uV l = true) : l.length = 13 ∧ mayU (uNum l 0) (uNum l 1) (uNum l 2) = true := by
  unfold uV at h
  simpa using h
theorem uF_may {l : List Nat} (h : uV l = true) : mayU (uF l 0) (uF l 1) (uF l 2) = true := by
  rw [uF_yes h, uF_yes h, uF_yes h]
  exact (uV_parts h).2

/-- What Print answers: the bytes, and which error (0: none). -/
def uL (a b c : Int) : List Nat := if mayU a b c = true then uBytes a.toNat b.toNat c.toNat else []
def uR (a b c : Int) : Int := if mayU a b c = true then 0 else 2
theorem uL_yes {a b c : Int} (h : mayU a b c = true) : uL a b c = uBytes a.toNat b.toNat c.toNat := by unfold uL; rw [if_pos h]
theorem uR_yes {a b c : Int} (h : mayU a b c = true) : uR a b c = 0 := by unfold uR; rw [if_pos h]
theorem uL_no {a b c : Int} (h : mayU a b c = false) : uL a b c = [] := by unfold uL; rw [if_neg (by rw [h]; simp)]
theorem uR_no {a b c : Int} (h : mayU a b c = false) : uR a b c = 2 := by unfold uR; rw [if_neg (by rw [h]; simp)]
/- There and back. -/
theorem uNum_bytes (a b c k : Nat) (hk : k < 3) (h : uFld a b c k < 256 ^ uW k) : uNum (uBytes a b c) k = uFld a b c k := by
  have key : ((uBytes a b c).drop (uPos k)).take (uW k) = digs (uW k) (uFld a b c k) := by
    have hj' : k = 0 ∨ k = 1 ∨ k = 2 := by omega
    rcases hj' with rfl | rfl | rfl <;> rfl
  unfold uNum
  rw [key, num_digs _ _ h]
theorem uV_bytes {a b c : Nat} (h : mayU a b c = true) : uV (uBytes a b c) = true ∧ ∀ k, k < 3 → uF (uBytes a b c) k = uFld a b c k := by
  have hf : ∀ k, k < 3 → uNum (uBytes a b c) k = uFld a b c k := fun k hk => uNum_bytes a b c k hk (by
    have := (fits_iff.1 (uFld_fits h k)).2.2
    simpa using this)
  have hv : uV (uBytes a b c) = true := uV_both (uBytes_len a b c) (by
    rw [hf 0 (by omega), hf 1 (by omega), hf 2 (by omega)]
    exact h)
  exact ⟨hv, fun k hk => by rw [uF_yes hv, hf k hk]⟩
/-- Valid metadata's bytes are parsed as they were. -/
theorem uBack {a b c : Int} (h : mayU a b c = true) : uV (uL a b c) = true ∧ (uF (uL a b c) 0 : Int) = a ∧ (uF (uL a b c) 1 : Int) = b ∧ (uF (uL a b c) 2 : Int) = c := by
  obtain ⟨a, b, c, rfl, rfl, rfl⟩ := mayU_nat h
  rw [uL_yes h]
  simp only [Int.toNat_natCast]
  obtain ⟨hv, hf⟩ := uV_bytes h
  exact ⟨hv, by rw [hf 0 (by omega)]; rfl, by rw [hf 1 (by omega)]; rfl, by rw [hf 2 (by omega)]; rfl⟩
end Go.Proofs.YtlikhmhomkiadaaGreatDoor

namespace Go.Proofs.YtlikhmhomkiadaaGreatDoor
open Go Go.RowKit

theorem withinU (a n b : Int) (w : World) :
    Calls Tryz.prog 153 #[.int .i64 a, .int .i64 n, .int .i64 b] w fun e w' => e = .returned (.int .i64 (max a (min n b))) ∧ w = w' := by
  have fin : ∀ x y : Int, x = y → Ending.returned (Value.int .i64 x) = .returned (.int .i64 y) := fun x y h => by rw [h]
  go_enter Tryz.func153, Tryz.ntmps153
  go_wp2
  all_goals (go_ret; refine ⟨fin _ _ ?_, rfl⟩; omega)
theorem isAboveU (x y a b : Int) (w : World) :
    Calls Tryz.prog 77 #[.agg #[.int .i64 x, .int .i64 y], .agg #[.int .i64 a, .int .i64 b]] w fun e w' => e = .returned (.bool (abvB x y a b)) ∧ Ext w w' := by
  have fin : ∀ x y : Bool, x = y → Ending.returned (Value.bool x) = .returned (.bool y) := fun x y h => by rw [h]
  have hE := ((Ext.refl w).alloc (.cells #[.int .i64 x, .int .i64 y] 74)).alloc (.cells #[.int .i64 a, .int .i64 b] 74)
  have HE := Lib.hid hE
  have HA : Hid (x = a → abvB x y a b = decide (b < y)) := Lib.hid fun h => by unfold abvB; rw [if_pos h]
  have HB : Hid (x ≠ a → abvB x y a b = decide (a < x)) := Lib.hid fun h => by unfold abvB; rw [if_neg h]
  clear hE
  by_cases hxa : x = a
  · subst hxa
    rw [HA.out rfl]
    go_enter Tryz.func77, Tryz.ntmps77
    go_wp2_with fail
    go_ret
    exact ⟨rfl, HE.out⟩
  · have hne : (x == a) = false := by rw [beq_eq_false_iff_ne]; exact hxa
    rw [HB.out hxa]
    go_enter Tryz.func77, Tryz.ntmps77
    go_wp2_with fail
    go_ret
    exact ⟨rfl, HE.out⟩
theorem ballot_neq (a b : Int) (w : World) : (binOp .neq 74 (.agg #[.int .i64 a, .int .i64 b]) (.agg #[.int .i64 0, .int .i64 0])).run Tryz.prog w = .ok (.bool (!(a == 0 && b == 0))) w := by
  have hf : Tryz.prog.stoodInHeld 74 = false := by kernel_rfl
  have hu := Tryz.underlying74
  rw [run_neq_struct, run_equalIn_agg _ _ _ _ _ (by rw [Program.fieldsOf, hu]) hf, Program.fieldsOf, hu]
  simp [Op.eqFields, go_sem]
  by_cases h1 : a = 0 <;> by_cases h2 : b = 0 <;> simp [h1, h2]
theorem meta_eql (a b c a' b' c' : Int) (w : World) : (binOp .eql 76 (.agg #[.int .i64 a, .int .i64 b, .int .i64 c]) (.agg #[.int .i64 a', .int .i64 b', .int .i64 c'])).run Tryz.prog w = .ok (.bool (a == a' && (b == b' && c == c'))) w := by
  have hf : Tryz.prog.stoodInHeld 76 = false := by kernel_rfl
  have hu := Tryz.underlying76
  have hu2 := Tryz.underlying74
  rw [run_eql_struct, run_equalIn_agg _ _ _ _ _ (by rw [Program.fieldsOf, hu]) hf, Program.fieldsOf, hu]
  simp [Op.eqFields, go_sem]
  by_cases h1 : a = a' <;> by_cases h2 : b = b' <;> by_cases h3 : c = c' <;> simp [h1, h2, h3]

theorem three_cells {w : World} {g : Nat} {x0 x1 x2 : Value} {t : TypeId} (h : w.heap[g]? = some (.cells #[x0, x1, x2] t (0, 0))) :
    (w.cell? ⟨g, 0, none⟩ = some x0 ∧ w.cell? ⟨g, 1, none⟩ = some x1 ∧ w.cell? ⟨g, 2, none⟩ = some x2) ∧ (w.frozen? ⟨g, 0, none⟩ = false ∧ w.frozen? ⟨g, 1, none⟩ = false ∧ w.frozen? ⟨g, 2, none⟩ = false) :=
  ⟨⟨cell_of_row w g 0 _ _ _ h, cell_of_row w g 1 _ _ _ h, cell_of_row w g 2 _ _ _ h⟩, ⟨frozen_of_row w g 0 _ _ h, frozen_of_row w g 1 _ _ h, frozen_of_row w g 2 _ _ h⟩⟩
theorem three_ext {w w' : World} (h : Ext w w') {g : Nat} (hg : w.heap.size ≤ g) (x0 x1 x2 : Value) :
    Ext w (((w'.setCell ⟨g, 0, none⟩ x0).setCell ⟨g, 1, none⟩ x1).setCell ⟨g, 2, none⟩ x2) :=
  ((h.setCell (p := ⟨g, 0, none⟩) hg _).setCell (p := ⟨g, 1, none⟩) hg _).setCell (p := ⟨g, 2, none⟩) hg _
theorem three_row {w : World} {g : Nat} {x0 x1 x2 : Value} {t : TypeId} (h : w.heap[g]? = some (.cells #[x0, x1, x2] t (0, 0))) (y0 y1 y2 : Value) :
    (((w.setCell ⟨g, 0, none⟩ y0).setCell ⟨g, 1, none⟩ y1).setCell ⟨g, 2, none⟩ y2).heap[g]? = some (.cells #[y0, y1, y2] t (0, 0)) := by
  have h0 := setCell_eq_setRow w g 0 _ _ _ y0 h
  have r0 := setRow_heap w g _ (#[x0, x1, x2].setIfInBounds 0 y0) _ _ h
  have h1 := setCell_eq_setRow _ g 1 _ _ _ y1 (h0 ▸ r0)
  have r1 := setRow_heap _ g _ ((#[x0, x1, x2].setIfInBounds 0 y0).setIfInBounds 1 y1) _ _ (h0 ▸ r0)
  have h2 := setCell_eq_setRow _ g 2 _ _ _ y2 (h1 ▸ r1)
  have r2 := setRow_heap _ g _ (((#[x0, x1, x2].setIfInBounds 0 y0).setIfInBounds 1 y1).setIfInBounds 2 y2) _ _ (h1 ▸ r1)
  rw [h2]
  exact r2

set_option maxRecDepth 100000 in
set_option maxHeartbeats 1600000 in
theorem nearestU (a b c : Int) (w : World) :
    Calls Tryz.prog 131 #[.agg #[.int .i64 a, .int .i64 b, .int .i64 c]] w fun r w' => r = .returned (.agg #[.int .i64 (nuA a b), .int .i64 (nuB a b), .int .i64 (nuC c)]) ∧ Ext w w' := by
  have hbn := ballot_neq a b
  by_cases h : a = 0 ∧ b = 0
  · obtain ⟨rfl, rfl⟩ := h
    go_enter Tryz.func131, Tryz.ntmps131
    go_wp2_with fail
    refine (withinU _ _ _ _).mono ?_
    rintro e' w' ⟨rfl, rfl⟩
    go_wp2_with fail
    refine bodyPost_ret (v := .agg #[.int .i64 0, .int .i64 0, .int .i64 (max 1 (min c 1099511627776))]) ?_ rfl ⟨rfl, ((Ext.refl w).alloc _).alloc _⟩
    simp [results, Tryz.results131, go_sem]
  · have hq : (!(a == 0 && b == 0)) = true := by
      simp
      omega
    rw [hq] at hbn
    have hA : nuA a b = max 1 (min a 1099511627776) := by unfold nuA; rw [if_neg h]
    have hB : nuB a b = max 0 (min b 6) := by unfold nuB; rw [if_neg h]
    rw [hA, hB]
    clear hA hB hq h
    go_enter Tryz.func131, Tryz.ntmps131
    go_wp2_with fail
    refine (withinU _ _ _ _).mono ?_
    rintro e' w' ⟨rfl, rfl⟩
    go_wp2_with fail
    refine (withinU _ _ _ _).mono ?_
    rintro e' w' ⟨rfl, rfl⟩
    go_wp2_with fail
    refine (withinU _ _ _ _).mono ?_
    rintro e' w' ⟨rfl, rfl⟩
    go_wp2_with fail
    refine bodyPost_ret (v := .agg #[.int .i64 (max 1 (min a 1099511627776)), .int .i64 (max 0 (min b 6)), .int .i64 (max 1 (min c 1099511627776))]) ?_ rfl ⟨rfl, ((Ext.refl w).alloc _).alloc _⟩
    simp [results, Tryz.results131, go_sem]

set_option maxRecDepth 100000 in
set_option maxHeartbeats 1600000 in
theorem mayU_any (a b c : Int) (w : World) :
    Calls Tryz.prog 76 #[.agg #[.int .i64 a, .int .i64 b, .int .i64 c]] w fun r w' => r = .returned (.bool (mayU a b c)) ∧ Ext w w' := by
  have hE := (Ext.refl w).alloc (.cells #[.int .i64 a, .int .i64 b, .int .i64 c] 76)
  obtain ⟨⟨i0, i1, i2⟩, _⟩ := three_cells (heap_alloc_new w (.cells #[.int .i64 a, .int .i64 b, .int .i64 c] 76))
  have HE := Lib.hid hE
  have HM := Lib.hid (nearU_eq a b c)
  have hq := meta_eql a b c (nuA a b) (nuB a b) (nuC c)
  have hg : Tryz.prog.eqGuardType Tryz.prog.depth 76 = false := by kernel_rfl
  clear hE
  go_enter Tryz.func76, Tryz.ntmps76
  go_wp2_with fail
  generalize (w.alloc (.cells #[.int .i64 a, .int .i64 b, .int .i64 c] 76)) = W at *
  generalize w.heap.size = g at *
  go_region_held3 (fun w' => w'.cell? ⟨g, 0, none⟩ = some (.int .i64 a) ∧ w'.cell? ⟨g, 1, none⟩ = some (.int .i64 b) ∧ w'.cell? ⟨g, 2, none⟩ = some (.int .i64 c))
    (first | with_reducible exact ⟨i0, i1, i2⟩ | exact ⟨Ext.cell hx i0, Ext.cell hx i1, Ext.cell hx i2⟩ | go_keep)
    (first
      | (go_at_call 131; ((with_reducible refine (nearestU _ _ _ _).mono ?_); rintro r w' ⟨rfl, hx⟩)))
  rw [HM.out]
  have HE := Lib.hid (HE.out.trans (((Ext.refl W).drew).trans hx))
  clear hx hq hg i0 i1 i2
  go_wp2_with fail
  go_ret
  exact ⟨rfl, HE.out⟩

/-- Where the numbers lie, with their widths. -/
def fieldsV (g : Nat) : Value := .agg #[.pointer (some ⟨g, 0, none⟩), .int .i64 6, .pointer (some ⟨g, 1, none⟩), .int .i64 1, .pointer (some ⟨g, 2, none⟩), .int .i64 6]
set_option maxRecDepth 100000 in
theorem fieldsU (g : Nat) (x0 x1 x2 : Value) (w : World) (h : w.heap[g]? = some (.cells #[x0, x1, x2] 76 (0, 0))) :
    Calls Tryz.prog 150 #[.pointer (some ⟨g, 0, none⟩)] w fun r w' => r = .returned (fieldsV g) ∧ Ext w w' := by
  have hx := (Ext.refl w).alloc (.cells #[.pointer none, .int .i64 0, .pointer none, .int .i64 0, .pointer none, .int .i64 0] 210)
  obtain ⟨⟨c0, c1, c2⟩, _⟩ := three_cells ((hx.block g (Array.getElem?_eq_some_iff.1 h).1).trans h)
  clear h hx
  go_enter Tryz.func150, Tryz.ntmps150
  go_wp2_with fail
  go_region
  go_wp2_with fail
  refine bodyPost_ret (v := fieldsV g) ?_ rfl ⟨rfl, ((Ext.refl w).alloc _).drew⟩
  simp [results, Tryz.results150, go_sem, fieldsV]
end Go.Proofs.YtlikhmhomkiadaaGreatDoor
