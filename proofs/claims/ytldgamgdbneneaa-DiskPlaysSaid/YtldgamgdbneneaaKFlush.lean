/-
  The contracts of the disk's Flush and Crash.
-/
import Derived.Test.YtldgamgdbneneaaKCarry
import Derived.Test.YtldgamgdbneneaaActs
namespace Go.Proofs.Ytldgamgdbneneaa
set_option maxRecDepth 100000
open Go Go.RowKit

theorem PD.pen_at {w : World} {d g : Nat} {pv : Value} {m : DM} (h : PD w d g pv m) {j : Nat} {x : Nat × List Nat} (hx : m.waits[j]? = some x) :
    ∃ b c, pv = .slice (some ⟨b, 0, none⟩) m.waits.length c ∧ w.rangeAt b (j * 65) (wriC x) := by
  have hj : j < m.waits.length := (List.getElem?_eq_some_iff.1 hx).1
  rcases h.pen.2 with ⟨_, h0⟩ | ⟨b, cap, cur, rfl, _, hg, h1, h2, h3, h4⟩
  · omega
  · refine ⟨b, cap, rfl, fun i v hv => ?_⟩
    rw [cell_of_row w b _ cur _ _ hg]
    have hp := penC_get (fun y hy => (h.ok.waits y hy).2.1) hx i v hv
    rw [← h4] at hp
    rw [List.getElem?_take] at hp
    split at hp
    · simpa using hp
    · cases hp
/-- The disk with no pending writes, and another head. -/
theorem PD.cleared {w w' : World} {d g : Nat} {pv : Value} {m : DM} (h : PD w d g pv m) (k : Mod (fun i => i = d) w w') (m' : DM)
    (hh : HeadAt w' d (.pointer (some ⟨d, 0, none⟩)) (stOf m') m'.power (.slice (some ⟨g, 0, none⟩) m.size m.size) (.slice none 0 0))
    (hok : m'.Ok) (h1 : m'.rest = m.rest) (h2 : m'.meant = m.meant) (h3 : m'.lost = m.lost) (h4 : m'.waits = []) (hp : m'.power = m.power) : PD w' d g (.slice none 0 0) m' := by
  have hz : m'.size = m.size := by unfold DM.size; rw [h1]
  refine ⟨hok, by rw [hz]; exact h.n1, by rw [hp]; exact h.top, by rw [hz]; exact hh, ?_, ?_, h.dg, fun k hk => (by cases hk)⟩
  · obtain ⟨cur, c1, c2, c3⟩ := h.med.mod k (fun e => h.dg e.symm)
    exact ⟨cur, c1, by rw [hz]; exact c2, fun s hs j v hv => c3 s (by rw [← hz]; exact hs) j v (by unfold DM.sec at hv ⊢; rw [h1, h2, h3] at hv; exact hv)⟩
  · rw [h4]
    exact World.ownsRow_nil _ _ _ _
theorem comes_snoc (m : DM) (l : List (Nat × List Nat)) (x : Nat × List Nat) : m.comes (l ++ [x]) = (m.comes l).come x := by simp [DM.comes]
theorem take_snoc {l : List (Nat × List Nat)} {j : Nat} {x : Nat × List Nat} (h : l[j]? = some x) : l.take (j + 1) = l.take j ++ [x] := by
  rw [List.take_add_one, h]; rfl
/-- What a loop that carries out writes has written. -/
def Fdg (d g : Nat) (i : Nat) : Prop := i = d ∨ i = g
theorem Fdg.of_d {d g : Nat} {w w' : World} (h : Mod (fun i => i = d) w w') : Mod (Fdg d g) w w' := h.mono fun _ hi => .inl hi
theorem Fdg.of_g {d g : Nat} {w w' : World} (h : Mod (fun i => i = g) w w') : Mod (Fdg d g) w w' := h.mono fun _ hi => .inr hi
theorem Mod.then {F : Nat → Prop} {a b c : World} (h : Mod F a b) (k : Mod F b c) : Mod F a c := h.trans k fun _ hi => .inl hi

set_option maxRecDepth 100000 in
set_option maxHeartbeats 3200000 in
theorem flush_of {w : World} {d g : Nat} {pv : Value} {m : DM} (h : PD w d g pv m) :
    Calls Try.prog 14 #[.pointer (some ⟨d, 0, none⟩)] w fun e w' => ∃ pv', e = .returned (.int .i64 m.flush.1) ∧ PD w' d g pv' m.flush.2 ∧ (pv' = pv ∨ pv' = .slice none 0 0) ∧ Mod (Fdg d g) w w' := by
  have hr := running_of h none 0 0 [] (ZsAt.nil_ w)
  have HR := Lib.hid hr
  have H := Lib.hid h
  have HE : Hid (runE m [] = if m.up = false then 5 else 0) := Lib.hid (by
    unfold runE knownE
    simp)
  have HP : Hid (m.flush = if m.up = false then (5, m) else if m.power = 0 then (5, { m with dead := true }) else (0, { ({ m with power := lessP m.power } : DM).comes m.waits with waits := [] })) := Lib.hid rfl
  have HO := Lib.hid (DM.flush_ok h.ok)
  clear h hr
  by_cases hu : m.up = false
  · have HE1 : Hid (runE m [] = 5) := Lib.hid (by rw [HE.out, if_pos hu])
    have HP1 : Hid (m.flush = (5, m)) := Lib.hid (by rw [HP.out, if_pos hu])
    clear hu HE HP
    go_enter Try.func14, Try.ntmps14
    go_wp2_with fail
    refine HR.out.mono ?_
    rw [HE1.out]
    rintro e w1 ⟨rfl, rfl⟩
    go_wp2_with fail
    go_ret
    exact ⟨pv, by rw [HP1.out]; rfl, by rw [HP1.out]; exact H.out, .inl rfl, Mod.refl _ _⟩
  · have HE1 : Hid (runE m [] = 0) := Lib.hid (by rw [HE.out, if_neg hu])
    have hup : m.up = true := by simpa using hu
    have hdr := draw_of H.out.headAt H.out.ok.power H.out.top
    have HD := Lib.hid hdr
    by_cases hp0 : m.power = 0
    · have HP1 : Hid (m.flush = (5, { m with dead := true })) := Lib.hid (by rw [HP.out, if_neg hu, if_pos hp0])
      have HS : Hid (drawE m.power = 5 ∧ drawS m.power (stOf m) = stOf { m with dead := true } ∧ lessP m.power = 0) := Lib.hid ⟨by rw [hp0]; rfl, by
        rw [hp0]
        show (1 : Int) = stOf { m with dead := true }
        unfold stOf
        have hd : m.down = false := by
          unfold DM.up at hup
          cases hm : m.down <;> simp_all
        simp [hd], by rw [hp0]; rfl⟩
      have HP0 := Lib.hid hp0
      clear hu hup hdr hp0 HE HP
      go_enter Try.func14, Try.ntmps14
      go_wp2_with fail
      refine HR.out.mono ?_
      rw [HE1.out]
      rintro e w1 ⟨rfl, rfl⟩
      go_wp2_with fail
      refine HD.out.mono ?_
      rw [HS.out.1, HS.out.2.1, HS.out.2.2]
      rintro e w1 ⟨rfl, hh, hm⟩
      have HM := Lib.hid hm
      have HH := Lib.hid hh
      clear hh hm
      go_wp2_with fail
      go_ret
      refine ⟨pv, by rw [HP1.out]; rfl, ?_, .inl rfl, Fdg.of_d HM.out⟩
      exact H.out.head_turned HM.out (stOf { m with dead := true }) 0 HH.out _ HO.out (by rw [HP1.out]) (by rw [HP1.out]) (by rw [HP1.out]) (by rw [HP1.out]) (by rw [HP1.out]) (by rw [HP1.out]; exact HP0.out) (by omega)
    · have HP1 : Hid (m.flush = (0, { ({ m with power := lessP m.power } : DM).comes m.waits with waits := [] })) := Lib.hid (by rw [HP.out, if_neg hu, if_neg hp0])
      have HS : Hid (drawE m.power = 0 ∧ drawS m.power (stOf m) = stOf m) := Lib.hid ⟨if_neg hp0, if_neg hp0⟩
      clear hu hup hdr hp0 HE HP
      go_enter Try.func14, Try.ntmps14
      go_wp2_with fail
      refine HR.out.mono ?_
      rw [HE1.out]
      rintro e w1 ⟨rfl, rfl⟩
      go_wp2_with fail
      refine HD.out.mono ?_
      rw [HS.out.1, HS.out.2]
      rintro e w1 ⟨rfl, hh, hm⟩
      have hpd : PD w1 d g pv { m with power := lessP m.power } := H.out.head_turned hm (stOf m) (lessP m.power) hh { m with power := lessP m.power } ⟨H.out.ok.meant, H.out.ok.lost, H.out.ok.rests, H.out.ok.means, H.out.ok.waits, lessP_le H.out.ok.power⟩ rfl rfl rfl rfl rfl rfl (by
        have := H.out.top
        unfold lessP
        split <;> omega)
      have HPW : Hid (({ m with power := lessP m.power } : DM).waits = m.waits) := Lib.hid rfl
      generalize ({ m with power := lessP m.power } : DM) = m1 at *
      have HM := Lib.hid (Fdg.of_d (g := g) hm)
      have H1 := Lib.hid hpd
      obtain ⟨⟨c0, c1, c2, c3, c4⟩, _⟩ := hpd.cells
      obtain ⟨A, c, hpv, hcap, hmost⟩ := hpd.pv_form
      rw [HPW.out] at hpv hcap
      obtain ⟨k, hk⟩ : ∃ k, m.waits.length = k := ⟨_, rfl⟩
      have HK := Lib.hid hk
      rw [hk] at hpv hcap
      subst hpv
      clear hh hm hpd hk c0 c1 c2 c3
      go_wp2_with fail
      go_loopw [22] (fun i wr => ∃ j : Nat, j ≤ k ∧ i = .int .i64 j ∧ PD wr d g (.slice A k c) (m1.comes (m.waits.take j)) ∧ Mod (Fdg d g) w wr) (fun i _ => k - (intOf i).toNat)
      case atStart => exact ⟨0, Nat.zero_le _, rfl, H1.out, HM.out⟩
      case round =>
        obtain ⟨j, hj, rfl, hpd, hmod⟩ := hrel
        have HPD := Lib.hid hpd
        have HMD := Lib.hid hmod
        clear hpd hmod c4
        by_cases hlt : j < k
        · obtain ⟨x, hx⟩ : ∃ x, m.waits[j]? = some x := ⟨_, List.getElem?_eq_getElem (by rw [HK.out]; exact hlt)⟩
          have hcw := DM.comes_waits (m.waits.take j) m1
          have hx2 : (m1.comes (m.waits.take j)).waits[j]? = some x := by rw [hcw.1, HPW.out]; exact hx
          obtain ⟨b, c', hpv, hrange⟩ := HPD.out.pen_at hx2
          injection hpv with hA hB hC
          subst hA
          clear hB hC
          have hxm := HPD.out.ok.waits x (List.mem_of_getElem? hx2)
          have HX := Lib.hid hx
          have HXM := Lib.hid hxm
          have HRG := Lib.hid hrange
          have HL65 : Hid ((wriC x).length = 65) := Lib.hid (wriC_len hxm.2.1)
          have hzv := zv_wri
          have HRN : Hid ((wr.alloc (.cells (wriC x).toArray 72)).rangeAt wr.heap.size 0 (wriC x)) := Lib.hid (range_new wr _ (wriC x) [] (wriC x) [] (by simp) 0 rfl)
          clear hcw hx hx2 hrange hxm
          go_wp2_with (first
            | (refine wl_wri rfl _ rfl b (j * 65) rfl (wriC x) HRG.out HL65.out ?_)
            | (refine ws_wri rfl _ _ rfl (wriC x) rfl rfl HL65.out (wriC_one x) ?_)
            | (refine wl_wri rfl _ rfl wr.heap.size 0 rfl (wriC x) HRN.out HL65.out ?_))
          have hE := (Ext.refl wr).alloc (.cells (wriC x).toArray 72)
          refine (carry_of (HPD.out.ext hE) x HXM.out.1 HXM.out.2).mono ?_
          rintro e w3 ⟨⟨v, rfl⟩, hp3, hm3⟩
          have HP3 := Lib.hid hp3
          have HM3 := Lib.hid ((HMD.out.ext hE).then (Fdg.of_g hm3))
          clear hp3 hm3 hE
          go_wp2_with fail
          go_roundw
          case rel => exact ⟨j + 1, by omega, by go_num, by rw [take_snoc HX.out, comes_snoc]; exact HP3.out, HM3.out⟩
          case measure => simp [intOf]; omega
        · have HTK : Hid (m.waits.take j = m.waits) := Lib.hid (List.take_of_length_le (by rw [HK.out]; omega))
          obtain ⟨⟨c0, c1, c2, c3, c4⟩, f0, f1, f2, f3, f4⟩ := HPD.out.cells
          clear c0 c1 c2 c3 f0 f1 f2 f3
          go_wp2_with fail
          go_ret
          have hpd := HPD.out
          rw [HTK.out] at hpd
          have hm4 : Mod (fun i => i = d) wr (wr.setCell ⟨d, 4, none⟩ (.slice none 0 0)) := (Mod.refl _ _).own_cell _ _
          refine ⟨.slice none 0 0, by rw [HP1.out]; rfl, ?_, .inr rfl, HMD.out.then (Fdg.of_d hm4)⟩
          refine hpd.cleared hm4 _ ?_ HO.out (by rw [HP1.out]) (by rw [HP1.out]) (by rw [HP1.out]) (by rw [HP1.out]) (by rw [HP1.out])
          rw [HP1.out]
          exact row_set 4 hpd.head _ rfl
end Go.Proofs.Ytldgamgdbneneaa
