/-
  GhostTells: what is hurt, seen and meant is what the document says.
-/
import Derived.Test.YtlikhmhomkiadaaGreatDoorQ14
import Derived.Test.YtlikhmhomkiadaaGreatDoorQ19
import Derived.Test.YtlikhmhomkiadaaGreatDoorQ33
import Derived.Test.YtlikhmhomkiadaaGreatDoorQ37
import Derived.Test.YtlikhmhomkiadaaGreatDoorQ38
import Derived.Test.YtlikhmhomkiadaaGreatDoorQ39
import Derived.Test.YtlikhmhomkiadaaGreatDoorQ41
import Derived.Lib.SmallJoins
namespace Go.Proofs.YtlikhmhomkiadaaGreatDoor
set_option maxRecDepth 100000
open Go Go.RowKit Go.Shelf

theorem knownG_two (r : Int) : knownG 156 r = 0 ∨ knownG 156 r = 2 := by
  unfold knownG
  rw [if_neg (by decide)]
  split
  · exact .inr rfl
  · exact .inl rfl
theorem placeG_two (r g pl : Int) : placeG 156 r g pl = 0 ∨ placeG 156 r g pl = 2 := by
  unfold placeG
  split
  · exact knownG_two r
  · split
    · exact .inr rfl
    · exact .inl rfl
set_option maxRecDepth 100000 in
set_option maxHeartbeats 1200000 in
theorem ghostTells_walk (A : Option Addr) (n c : Nat) (l : List Act6) (r g pl : Int) (w : World) (ha : Acts6 w w.heap.size A n c l) (hL : LaidF w) :
    Calls Tryz.prog 3 #[.slice A n c, .int .i64 r, .int .i64 g, .int .i64 pl] w fun e w' => e = .returned (.bool true) ∧ Ext w w' := by
  have HE0 := Lib.hid (Ext.refl w)
  have HA := Lib.hid ha
  have HL := Lib.hid hL
  have hn : 0 ≤ n := Nat.zero_le _
  clear ha hL
  go_enter Tryz.func3, Tryz.ntmps3
  go_wp2_with fail
  refine (great6_of (Nat.le_refl _) A n c l HA.out).mono ?_
  rintro e w1 ⟨b, rfl, hx, hg⟩
  have HE := Lib.hid hx
  clear hx
  cases b with
  | true =>
    go_wp2_with fail
    go_ret
    exact ⟨rfl, HE.out⟩
  | false =>
    obtain ⟨hn60, hall⟩ := hg rfl
    have HALL := Lib.hid hall
    clear hg hall
    go_wp2_with fail
    refine (new_pdk 156 _ (by omega) (by omega)).mono ?_
    rintro e w2 ⟨d, rfl, hp, hx⟩
    have HP2 := Lib.hid hp
    have HX2 := Lib.hid hx
    clear hp hx
    go_wp2_with fail
    refine (rnew_yes 156 w2 (by omega) (by omega)).mono ?_
    rintro e w3 ⟨m, p, rfl, hr, hl, hx⟩
    have HB := Lib.hid (Both.new HE.out HP2.out HX2.out hr hl hx)
    clear hr hl hx HP2 HX2
    go_wp2_with fail
    go_loopw [13] (fun i wr => ∃ (k : Nat) (F : Nat → Prop) (p : Nat → Nat) (M : DM), k ≤ n ∧ i = .int .i64 k ∧ Hid (Both w wr d m F p M M) ∧ Hid (M.Ok ∧ M.size = 156 ∧ M.waits.length ≤ 2 * k)) (fun i _ => n - (intOf i).toNat)
    case atStart => exact ⟨0, _, _, _, Nat.zero_le _, rfl, HB, Lib.hid ⟨DM.new_ok 156, by simp [DM.new, DM.size], by simp [DM.new]⟩⟩
    case round =>
      clear HB
      obtain ⟨k, F, p, M, hkn, rfl, HB, HM2⟩ := hrel
      by_cases hlt : k < n
      · obtain ⟨g1, o, x, rfl, hg, hx, hok, hc⟩ := HA.out.at_ hlt
        obtain ⟨h0, h1, h2, h3, h4, h5, h6, h7, h8, h9, h10, h11⟩ := hc.below HB.out.dk.bel hg
        have hmem := HALL.out x (List.mem_of_getElem? hx)
        have hdo := HB.out.do6 HL.out.a.t x hok hmem.2.1 (by have := HM2.out.2.2; omega)
        have HN : Hid ((M.act6 x).Ok ∧ (M.act6 x).size = 156 ∧ (M.act6 x).waits.length ≤ 2 * (k + 1)) := Lib.hid ⟨act6_ok HM2.out.1 hok.body.rd.lt hok.act.bytes.rd.lt, (act6_size M x).trans HM2.out.2.1, by
          have := act6_waits M x
          have := HM2.out.2.2
          omega⟩
        have HDO := Lib.hid hdo
        have HOK := Lib.hid hok
        have HMEM := Lib.hid hmem.2.1
        have HC := Lib.hid hc
        have HG1 := Lib.hid hg
        clear hx hok hc hmem hdo
        go_wp2_with fail
        refine HDO.out.mono ?_
        rintro e w4 ⟨⟨v, rfl⟩, F', hB'⟩
        have HB2 := Lib.hid hB'
        clear hB' h0 h1 h2 h3 h4 h5 h6 h7 h8 h9 h10 h11
        obtain ⟨h0, h1, h2, h3, h4, h5, h6, h7, h8, h9, h10, h11⟩ := HC.out.below HB2.out.dk.bel HG1.out
        have HSM := Lib.hid (HB2.out.same6 HL.out.a.t x HOK.out HMEM.out (by have := HM2.out.2.2; omega))
        go_wp2_with fail
        refine HSM.out.mono ?_
        rintro e w5 ⟨⟨v2, rfl⟩, p', hB'⟩
        have HB3 := Lib.hid hB'
        clear hB'
        go_wp2_with fail
        go_roundw
        case rel => exact ⟨k + 1, _, _, _, by omega, by go_num, HB3, HN⟩
        case measure => simp [intOf]; omega
      · clear HALL HA
        have hhu := hurt_pd HB.out.dk.disk (by rw [HM2.out.2.1]; omega)
        rw [HM2.out.2.1] at hhu
        have HHU := Lib.hid hhu
        clear hhu
        go_wp2_with fail
        refine HHU.out.mono ?_
        rintro e w4 ⟨v1, rfl, ho1, hx⟩
        have HB4 := Lib.hid (HB.out.ext hx)
        have HEX := Lib.hid hx
        have hhu := rhurts_of HB4.out.rd
        rw [HM2.out.2.1] at hhu
        have HHU := Lib.hid hhu
        have HO1 := Lib.hid ho1
        clear hhu ho1 hx HB HEX
        go_wp2_with fail
        refine HHU.out.mono ?_
        rintro e w5 ⟨v2, rfl, ho2, hx⟩
        have HO2 := Lib.hid ho2
        have HO1 : Hid (w5.ownsRow _ 3 1 v1 _ _) := Lib.hid (own_ext HO1.out hx)
        have HB5 := Lib.hid (HB4.out.ext hx)
        clear ho2 hx HB4
        obtain ⟨L, hL⟩ : ∃ L, hurtsIn M.hurt 0 156 = L := ⟨_, rfl⟩
        rw [hL] at HO1 HO2
        obtain ⟨A1, c1, rfl, _⟩ := own_form HO1.out
        obtain ⟨A2, c2, rfl, _⟩ := own_form HO2.out
        have hlc : L.length ≤ 1024 := by rw [← hL]; exact Nat.le_trans (hurtsIn_len _ _ _) (by omega)
        clear hL
        have HX5 := Lib.hid (Ext.refl w5)
        go_wp2_with fail
        go_loopw [16] (fun i wr => ∃ j : Nat, j ≤ L.length ∧ i = .int .i64 j ∧ Hid (Ext w5 wr)) (fun i _ => L.length - (intOf i).toNat)
        case atStart => exact ⟨0, Nat.zero_le _, rfl, HX5⟩
        case round =>
          obtain ⟨j, hjl, rfl, HX⟩ := hrel
          by_cases hj : j < L.length
          · obtain ⟨q1, e1, hf1⟩ := Joins.ownsRow_form (own_ext HO1.out HX.out) (by omega)
            obtain ⟨q2, e2, hf2⟩ := Joins.ownsRow_form (own_ext HO2.out HX.out) (by omega)
            injection hf1 with hf1 _ hf1c
            injection hf2 with hf2 _ hf2c
            subst hf1; subst hf2; subst hf1c; subst hf2c
            have k1 := (own_ext HO1.out HX.out).cellAt j (by omega)
            have k2 := (own_ext HO2.out HX.out).cellAt j (by omega)
            obtain ⟨z, hz⟩ : ∃ z, L[j]? = some z := ⟨_, List.getElem?_eq_getElem hj⟩
            rw [List.getElem?_map, hz] at k1 k2
            have k1 : _ = some (Value.int .i64 z) := k1
            have k2 : _ = some (Value.int .i64 z) := k2
            have HXD := Lib.hid HX.out.drew
            go_wp2_with fail
            go_region
            go_wp2_with fail
            go_roundw
            case rel => exact ⟨j + 1, by omega, by go_num, HXD⟩
            case measure => simp [intOf]; omega
          · have hsd : M.size = 156 := HM2.out.2.1
            have HB6 := Lib.hid (HB5.out.ext HX.out)
            clear HHU HO1 HO2 HX5 HX HB5
            have hP : placeG 156 r g pl = 0 ∨ placeG 156 r g pl = 2 := placeG_two _ _ _
            have hK : knownG 156 r = 0 ∨ knownG 156 r = 2 := knownG_two _
            have HSD := Lib.hid hsd
            clear hsd
            have hs : ∀ (v : World) (F : Nat → Prop) (p : Nat → Nat), Both w v d m F p M M → Calls Tryz.prog 15 #[.pointer (some ⟨d, 0, none⟩), .int .i64 r] v (fun e w' => e = .returned (.tuple #[.bool (decide (knownG 156 r = 0) && M.seenB r), .int .i64 (knownG 156 r)]) ∧ Ext v w') := fun v F p h => by
              rcases hK with hk | hk
              · rw [hk, decide_eq_true rfl, Bool.true_and]
                exact seen_yes h.dk.disk (HL.out.ext h.dk.bel) r (by rw [HSD.out]; exact hk)
              · have h2 := seen_err (Sized.of h.dk.disk) (HL.out.ext h.dk.bel).a.t r (by rw [HSD.out, hk]; omega)
                rw [HSD.out, hk] at h2
                rw [hk, decide_eq_false (by omega), Bool.false_and]
                exact h2
            have hs2 : ∀ (v : World) (F : Nat → Prop) (p : Nat → Nat), Both w v d m F p M M → Calls Tryz.prog 16 #[.pointer (some ⟨m, 0, none⟩), .int .i64 r] v (fun e w' => e = .returned (.tuple #[.bool (decide (knownG 156 r = 0) && M.seenB r), .int .i64 (knownG 156 r)]) ∧ Ext v w') := fun v F p h => by
              rcases hK with hk | hk
              · rw [hk, decide_eq_true rfl, Bool.true_and]
                exact rseen_yes h.rd HSD.out r hk
              · have h2 := rseen_no h.rd HSD.out r (by rw [hk]; omega)
                rw [hk, decide_eq_false (by omega), Bool.false_and]
                exact h2
            have hp : ∀ (v : World) (F : Nat → Prop) (p : Nat → Nat), Both w v d m F p M M → Calls Tryz.prog 13 #[.pointer (some ⟨d, 0, none⟩), .int .i64 r, .int .i64 g, .int .i64 pl] v (fun e w' => e = .returned (.tuple #[.bool (decide (placeG 156 r g pl = 0) && anyIn M.hurt (firstS g pl) (wid g)), .bool (decide (placeG 156 r g pl = 0) && (anyIn M.hurt (firstS g pl) (wid g) && M.badB r g pl)), .int .i64 (placeG 156 r g pl)]) ∧ Ext v w') := fun v F p h => by
              rcases hP with hk | hk
              · rw [hk, decide_eq_true rfl, Bool.true_and, Bool.true_and]
                exact place_yes h.dk.disk (HL.out.ext h.dk.bel) r g pl (by rw [HSD.out]; exact hk)
              · have h2 := place_err (Sized.of h.dk.disk) (HL.out.ext h.dk.bel).a.t r g pl (by rw [HSD.out, hk]; omega)
                rw [HSD.out, hk] at h2
                rw [hk, decide_eq_false (by omega), Bool.false_and, Bool.false_and]
                exact h2
            have hp2 : ∀ (v : World) (F : Nat → Prop) (p : Nat → Nat), Both w v d m F p M M → Calls Tryz.prog 14 #[.pointer (some ⟨m, 0, none⟩), .int .i64 r, .int .i64 g, .int .i64 pl] v (fun e w' => e = .returned (.tuple #[.bool (decide (placeG 156 r g pl = 0) && anyIn M.hurt (firstS g pl) (wid g)), .bool (decide (placeG 156 r g pl = 0) && (anyIn M.hurt (firstS g pl) (wid g) && M.badB r g pl)), .int .i64 (placeG 156 r g pl)]) ∧ Ext v w') := fun v F p h => by
              rcases hP with hk | hk
              · rw [hk, decide_eq_true rfl, Bool.true_and, Bool.true_and]
                exact rplace_yes h.rd HSD.out r g pl hk
              · have h2 := rplace_no h.rd HSD.out r g pl (by rw [hk]; omega)
                rw [hk, decide_eq_false (by omega), Bool.false_and, Bool.false_and]
                exact h2
            generalize (decide (placeG 156 r g pl = 0) && anyIn M.hurt (firstS g pl) (wid g)) = b1 at hp hp2
            generalize (decide (placeG 156 r g pl = 0) && (anyIn M.hurt (firstS g pl) (wid g) && M.badB r g pl)) = b2 at hp hp2
            generalize (decide (knownG 156 r = 0) && M.seenB r) = b3 at hs hs2
            obtain ⟨E1, hE1⟩ : ∃ E, placeG 156 r g pl = E := ⟨_, rfl⟩
            obtain ⟨E2, hE2⟩ : ∃ E, knownG 156 r = E := ⟨_, rfl⟩
            rw [hE1] at hp hp2
            rw [hE2] at hs hs2
            have HPC := Lib.hid hp
            have HQC := Lib.hid hp2
            have HSC := Lib.hid hs
            have HTC := Lib.hid hs2
            have hP' : E1 = 0 ∨ E1 = 2 := by omega
            have hK' : E2 = 0 ∨ E2 = 2 := by omega
            have HE1 := Lib.hid hE1
            clear hp hp2 hs hs2 hP hK hE1 hE2
            have H1 := Lib.hid (HPC.out _ _ _ HB6.out)
            go_wp2_with fail
            refine H1.out.mono ?_
            rintro e w6 ⟨rfl, hx⟩
            have HB7 := Lib.hid (HB6.out.ext hx)
            have H2 := Lib.hid (HQC.out _ _ _ HB7.out)
            clear hx HB6 H1
            go_wp2_with fail
            refine H2.out.mono ?_
            rintro e w7 ⟨rfl, hx⟩
            have HB8 := Lib.hid (HB7.out.ext hx)
            have H1 := Lib.hid (HSC.out _ _ _ HB8.out)
            clear hx HB7 H2
            go_wp2_with fail
            refine H1.out.mono ?_
            rintro e w8 ⟨rfl, hx⟩
            have HB9 := Lib.hid (HB8.out.ext hx)
            have H2 := Lib.hid (HTC.out _ _ _ HB9.out)
            clear hx HB8 H1
            go_wp2_with fail
            refine H2.out.mono ?_
            rintro e w9 ⟨rfl, hx⟩
            have HBA := Lib.hid (HB9.out.ext hx)
            clear hx HB9 H2 HPC HQC HSC HTC
            obtain ⟨st, t0, t1, t2, t3, t4, bl, hho, hro⟩ : ∃ (st t0 t1 t2 t3 t4 : Int) (bl : List Nat), (∀ (v : World) (F : Nat → Prop) (p : Nat → Nat), Both w v d m F p M M → Calls Tryz.prog 17 #[.pointer (some ⟨d, 0, none⟩), .int .i64 r, .int .i64 g, .int .i64 pl] v (fun e w' => ∃ A N c, e = .returned (.tuple #[.int .u8 st, .agg #[.int .i64 t0, .int .i64 t1, .int .i64 t2, .int .i64 t3, .int .i64 t4], .slice A N c, .int .i64 E1]) ∧ By w' A N c bl ∧ Ext v w')) ∧ (∀ (v : World) (F : Nat → Prop) (p : Nat → Nat), Both w v d m F p M M → Calls Tryz.prog 18 #[.pointer (some ⟨m, 0, none⟩), .int .i64 r, .int .i64 g, .int .i64 pl] v (fun e w' => ∃ A N c, e = .returned (.tuple #[.int .u8 st, .agg #[.int .i64 t0, .int .i64 t1, .int .i64 t2, .int .i64 t3, .int .i64 t4], .slice A N c, .int .i64 E1]) ∧ By w' A N c bl ∧ Ext v w')) := by
              rcases hP' with h0 | h0
              · have hk := HE1.out
                rw [h0] at hk ⊢
                refine ⟨_, _, _, _, _, _, _, fun v F p h => (honest_yes h.dk.disk (HL.out.ext h.dk.bel) r g pl (by rw [HSD.out]; exact hk)).mono fun _ _ ⟨A, N, h1, h2, h3⟩ => ⟨A, N, N, h1, h2, h3⟩, fun v F p h => rhonest_yes h.rd HSD.out r g pl hk⟩
              · have hk := HE1.out
                rw [h0] at hk ⊢
                refine ⟨0, 0, 0, 0, 0, 0, [], fun v F p h => ?_, fun v F p h => ?_⟩
                · have h2 := honest_err (Sized.of h.dk.disk) (HL.out.ext h.dk.bel).a.t r g pl (by rw [HSD.out, hk]; omega)
                  rw [HSD.out, hk] at h2
                  exact h2.mono fun _ _ ⟨h1, h3⟩ => ⟨none, 0, 0, h1, By.nil_ _, h3⟩
                · exact (rhonest_no h.rd HSD.out r g pl (by rw [hk]; omega)).mono fun _ _ ⟨h1, h3⟩ => ⟨none, 0, 0, h1, By.nil_ _, h3⟩
            have HHC := Lib.hid hho
            have HRC := Lib.hid hro
            have H1 := Lib.hid (HHC.out _ _ _ HBA.out)
            clear hho hro HHC
            go_wp2_with fail
            refine H1.out.mono ?_
            rintro e u1 ⟨A7, N7, c7, rfl, hb7, hx⟩
            have HT1 := Lib.hid (heap_alloc_new u1 (.cells #[.int .i64 t0, .int .i64 t1, .int .i64 t2, .int .i64 t3, .int .i64 t4] 33))
            have HX7 := (Ext.refl u1).alloc (.cells #[.int .i64 t0, .int .i64 t1, .int .i64 t2, .int .i64 t3, .int .i64 t4] 33)
            have HB7 := Lib.hid (hb7.ext HX7)
            have HBB := Lib.hid ((HBA.out.ext hx).ext HX7)
            have H2 := Lib.hid (HRC.out _ _ _ HBB.out)
            clear hb7 hx HX7 H1 HBA HRC
            go_wp2_with fail
            refine H2.out.mono ?_
            rintro e u2 ⟨A8, N8, c8, rfl, hb8, hx⟩
            have HX8 := (Ext.refl u2).alloc (.cells #[.int .i64 t0, .int .i64 t1, .int .i64 t2, .int .i64 t3, .int .i64 t4] 33)
            have hr := heap_alloc_new u2 (.cells #[.int .i64 t0, .int .i64 t1, .int .i64 t2, .int .i64 t3, .int .i64 t4] 33)
            obtain ⟨⟨i0, i1, i2, i3, i4⟩, _⟩ := five_cells (((hx.trans HX8).block _ (Array.getElem?_eq_some_iff.1 HT1.out).1).trans HT1.out)
            obtain ⟨⟨j0, j1, j2, j3, j4⟩, _⟩ := five_cells hr
            have HB8 := Lib.hid (hb8.ext HX8)
            have HB7 := Lib.hid (HB7.out.ext (hx.trans HX8))
            have HBB := Lib.hid (HBB.out.ext (hx.trans HX8))
            have hq := tag_eql t0 t1 t2 t3 t4 t0 t1 t2 t3 t4
            clear hb8 hx HX8 hr H2
            go_wp2_with fail
            refine (same_by _ _ bl bl _ _ _ _ _ HB7.out HB8.out).mono ?_
            rw [decide_eq_true (rfl : bl = bl)]
            rintro e u3 ⟨rfl, hx⟩
            have HX9 := Lib.hid (HBB.out.dk.bel.trans hx)
            clear hx i0 i1 i2 i3 i4 j0 j1 j2 j3 j4 hq
            go_wp2_with fail
            go_ret
            exact ⟨rfl, HX9.out⟩
/-- The walk, in the frame's form. -/
theorem ghostTells_law (A : Option Addr) (n c : Nat) (l : List Act6) (r g pl : Int) (w : World) (ha : Acts6 w w.heap.size A n c l) (_ : (Lit.int .i64 r).wf = true) (_ : (Lit.int .i64 g).wf = true) (_ : (Lit.int .i64 pl).wf = true) (hL : LaidF w) :
    Calls Tryz.prog 3 #[.slice A n c, .int .i64 r, .int .i64 g, .int .i64 pl] w fun e w' => e = .returned (.bool true) ∧ Below w.heap.size w w' := ghostTells_walk A n c l r g pl w ha hL
end Go.Proofs.YtlikhmhomkiadaaGreatDoor
