/-
  The contracts of the disk's Flush and Crash.
-/
import Derived.Test.YtmpaocpgoihliaaGreatDoorP00
import Derived.Test.YtmpaocpgoihliaaGreatDoorP02
import Derived.Deep.RegionHeld3
import Derived.RangeFuncNested
import Derived.RangeFuncBound
import Derived.RangeFuncCalls
import Derived.RangeFuncLeaves
import Derived.Shelf.Abstract
import Derived.Shelf.RegionOpen
import Derived.WalkKit
import Derived.OwnWalkIn
import Derived.TacticsInMore
import Derived.LoopNIn
import Derived.LoopIn
namespace Go.Proofs.YtmpaocpgoihliaaGreatDoor
set_option maxRecDepth 100000
section
open Go Go.RowKit
theorem PD.pen_at {w : World} {d g : Nat} {pv : Value} {m : DM} (h : PD w d g pv m) {j : Nat} {x : Nat × List Nat} (hx : m.waits[j]? = some x) :
 ∃ b c, pv = .slice (some ⟨b, 0, none⟩) m.waits.length c ∧ w.rangeAt b (j * 65) (wriC x) := by
 have hj : j < m.waits.length := (List.getElem?_eq_some_iff.1 hx).1
 rcases h.pen.2 with ⟨_, h0⟩ | ⟨b, cap, cur, rfl, _, hg, h1, h2, h3, h4⟩
 ·omega
 ·refine ⟨b, cap, rfl, fun i v hv => ?_⟩
  rw [cell_of_row w b _ cur _ _ hg]
  have hp := penC_get (fun y hy => (h.ok.waits y hy).2.1) hx i v hv
  rw [← h4] at hp
  rw [List.getElem?_take] at hp
  split at hp
  ·simpa using hp
  ·cases hp
theorem PD.cleared {w w' : World} {d g : Nat} {pv : Value} {m : DM} (h : PD w d g pv m) (k : Mod (fun i => i = d) w w') (m' : DM)
 (hh : HeadAt w' d (.pointer (some ⟨d, 0, none⟩)) (stOf m') m'.power (.slice (some ⟨g, 0, none⟩) m.size m.size) (.slice none 0 0))
 (hok : m'.Ok) (h1 : m'.rest = m.rest) (h2 : m'.meant = m.meant) (h3 : m'.lost = m.lost) (h4 : m'.waits = []) (hp : m'.power = m.power) : PD w' d g (.slice none 0 0) m' := by
 have hz : m'.size = m.size := by unfold DM.size; rw [h1]
 refine ⟨hok, by rw [hz]; exact h.n1, by rw [hp]; exact h.top, by rw [hz]; exact hh, ?_, ?_, h.dg, fun k hk => (by cases hk)⟩
 ·obtain ⟨cur, c1, c2, c3⟩ := h.med.mod k (fun e => h.dg e.symm)
  exact ⟨cur, c1, by rw [hz]; exact c2, fun s hs j v hv => c3 s (by rw [← hz]; exact hs) j v (by unfold DM.sec at hv ⊢; rw [h1, h2, h3] at hv; exact hv)⟩
 ·rw [h4]
  exact World.ownsRow_nil _ _ _ _
theorem comes_snoc (m : DM) (l : List (Nat × List Nat)) (x : Nat × List Nat) : m.comes (l ++ [x]) = (m.comes l).come x := by simp [DM.comes]
theorem take_snoc {l : List (Nat × List Nat)} {j : Nat} {x : Nat × List Nat} (h : l[j]? = some x) : l.take (j + 1) = l.take j ++ [x] := by
 rw [List.take_add_one, h]; rfl
def Fdg (d g : Nat) (i : Nat) : Prop := i = d ∨ i = g
theorem Fdg.of_d {d g : Nat} {w w' : World} (h : Mod (fun i => i = d) w w') : Mod (Fdg d g) w w' := h.mono fun _ hi => .inl hi
theorem Fdg.of_g {d g : Nat} {w w' : World} (h : Mod (fun i => i = g) w w') : Mod (Fdg d g) w w' := h.mono fun _ hi => .inr hi
theorem Mod.then {F : Nat → Prop} {a b c : World} (h : Mod F a b) (k : Mod F b c) : Mod F a c := h.trans k fun _ hi => .inl hi
set_option maxHeartbeats 3200000 in
theorem flush_of {w : World} {d g : Nat} {pv : Value} {m : DM} (h : PD w d g pv m) :
 Calls Tryz.prog 117 #[.pointer (some ⟨d, 0, none⟩)] w fun e w' => ∃ pv', e = .returned (.int .i64 m.flush.1) ∧ PD w' d g pv' m.flush.2 ∧ (pv' = pv ∨ pv' = .slice none 0 0) ∧ Mod (Fdg d g) w w' := by
 have hr := running_of h none 0 0 [] (ZsAt.nil_ w)
 have HR := Lib.hid hr
 have H := Lib.hid h
 have HE : Hid (runE m [] = if m.up = false then 5 else 0) := Lib.hid (by
  unfold runE knownE
  simp)
 have HP : Hid (m.flush = if m.up = false then (5, m) else if m.power = 0 then (5, { m with dead := true }) else (0, { ({ m with power := lessP m.power } : DM).comes m.waits with waits := [] })) := Lib.hid rfl
 have HO := Lib.hid (DM.flush_ok h.ok)
 clear h hr
 by_cases hu : m.up = false
 ·have HE1 : Hid (runE m [] = 5) := Lib.hid (by rw [HE.out, if_pos hu])
  have HP1 : Hid (m.flush = (5, m)) := Lib.hid (by rw [HP.out, if_pos hu])
  clear hu HE HP
  go_enter Tryz.func117, Tryz.ntmps117
  go_wp2_with fail
  refine HR.out.mono ?_
  rw [HE1.out]
  rintro e w1 ⟨rfl, rfl⟩
  go_wp2_with fail
  go_ret
  exact ⟨pv, by rw [HP1.out]; rfl, by rw [HP1.out]; exact H.out, .inl rfl, Mod.refl _ _⟩
 ·have HE1 : Hid (runE m [] = 0) := Lib.hid (by rw [HE.out, if_neg hu])
  have hup : m.up = true := by simpa using hu
  have hdr := draw_of H.out.headAt H.out.ok.power H.out.top
  have HD := Lib.hid hdr
  by_cases hp0 : m.power = 0
  ·have HP1 : Hid (m.flush = (5, { m with dead := true })) := Lib.hid (by rw [HP.out, if_neg hu, if_pos hp0])
   have HS : Hid (drawE m.power = 5 ∧ drawS m.power (stOf m) = stOf { m with dead := true } ∧ lessP m.power = 0) := Lib.hid ⟨by rw [hp0]; rfl, by
    rw [hp0]
    show (1 : Int) = stOf { m with dead := true }
    unfold stOf
    have hd : m.down = false := by
     unfold DM.up at hup
     cases hm : m.down <;> simp_all
    simp [hd], by rw [hp0]; rfl⟩
   have HP0 := Lib.hid hp0
   clear hu hup hdr hp0 HE HP
   go_enter Tryz.func117, Tryz.ntmps117
   go_wp2_with fail
   refine HR.out.mono ?_
   rw [HE1.out]
   rintro e w1 ⟨rfl, rfl⟩
   go_wp2_with fail
   refine HD.out.mono ?_
   rw [HS.out.1, HS.out.2.1, HS.out.2.2]
   rintro e w1 ⟨rfl, hh, hm⟩
   have HM := Lib.hid hm
   have HH := Lib.hid hh
   clear hh hm
   go_wp2_with fail
   go_ret
   refine ⟨pv, by rw [HP1.out]; rfl, ?_, .inl rfl, Fdg.of_d HM.out⟩
   exact H.out.head_turned HM.out (stOf { m with dead := true }) 0 HH.out _ HO.out (by rw [HP1.out]) (by rw [HP1.out]) (by rw [HP1.out]) (by rw [HP1.out]) (by rw [HP1.out]) (by rw [HP1.out]; exact HP0.out) (by omega)
  ·have HP1 : Hid (m.flush = (0, { ({ m with power := lessP m.power } : DM).comes m.waits with waits := [] })) := Lib.hid (by rw [HP.out, if_neg hu, if_neg hp0])
   have HS : Hid (drawE m.power = 0 ∧ drawS m.power (stOf m) = stOf m) := Lib.hid ⟨if_neg hp0, if_neg hp0⟩
   clear hu hup hdr hp0 HE HP
   go_enter Tryz.func117, Tryz.ntmps117
   go_wp2_with fail
   refine HR.out.mono ?_
   rw [HE1.out]
   rintro e w1 ⟨rfl, rfl⟩
   go_wp2_with fail
   refine HD.out.mono ?_
   rw [HS.out.1, HS.out.2]
   rintro e w1 ⟨rfl, hh, hm⟩
   have hpd : PD w1 d g pv { m with power := lessP m.power } := H.out.head_turned hm (stOf m) (lessP m.power) hh { m with power := lessP m.power } ⟨H.out.ok.meant, H.out.ok.lost, H.out.ok.rests, H.out.ok.means, H.out.ok.waits, lessP_le H.out.ok.power⟩ rfl rfl rfl rfl rfl rfl (by
    have := H.out.top
    unfold lessP
    split <;> omega)
   have HPW : Hid (({ m with power := lessP m.power } : DM).waits = m.waits) := Lib.hid rfl
   generalize ({ m with power := lessP m.power } : DM) = m1 at *
   have HM := Lib.hid (Fdg.of_d (g := g) hm)
   have H1 := Lib.hid hpd
   obtain ⟨⟨c0, c1, c2, c3, c4⟩, _⟩ := hpd.cells
   obtain ⟨A, c, hpv, hcap, hmost⟩ := hpd.pv_form
   rw [HPW.out] at hpv hcap
   obtain ⟨k, hk⟩ : ∃ k, m.waits.length = k := ⟨_, rfl⟩
   have HK := Lib.hid hk
   rw [hk] at hpv hcap
   subst hpv
   clear hh hm hpd hk c0 c1 c2 c3
   go_wp2_with fail
   go_loopw [22] (fun i wr => ∃ j : Nat, j ≤ k ∧ i = .int .i64 j ∧ PD wr d g (.slice A k c) (m1.comes (m.waits.take j)) ∧ Mod (Fdg d g) w wr) (fun i _ => k - (intOf i).toNat)
   case atStart => exact ⟨0, Nat.zero_le _, rfl, H1.out, HM.out⟩
   case round =>
    obtain ⟨j, hj, rfl, hpd, hmod⟩ := hrel
    have HPD := Lib.hid hpd
    have HMD := Lib.hid hmod
    clear hpd hmod c4
    by_cases hlt : j < k
    ·obtain ⟨x, hx⟩ : ∃ x, m.waits[j]? = some x := ⟨_, List.getElem?_eq_getElem (by rw [HK.out]; exact hlt)⟩
     have hcw := DM.comes_waits (m.waits.take j) m1
     have hx2 : (m1.comes (m.waits.take j)).waits[j]? = some x := by rw [hcw.1, HPW.out]; exact hx
     obtain ⟨b, c', hpv, hrange⟩ := HPD.out.pen_at hx2
     injection hpv with hA hB hC
     subst hA
     clear hB hC
     have hxm := HPD.out.ok.waits x (List.mem_of_getElem? hx2)
     have HX := Lib.hid hx
     have HXM := Lib.hid hxm
     have HRG := Lib.hid hrange
     have HL65 : Hid ((wriC x).length = 65) := Lib.hid (wriC_len hxm.2.1)
     have hzv := zv_wri
     have HRN : Hid ((wr.alloc (.cells (wriC x).toArray 205)).rangeAt wr.heap.size 0 (wriC x)) := Lib.hid (range_new wr _ (wriC x) [] (wriC x) [] (by simp) 0 rfl)
     clear hcw hx hx2 hrange hxm
     go_wp2_with (first
      | (refine wl_wri rfl _ rfl b (j * 65) rfl (wriC x) HRG.out HL65.out ?_)
      | (refine ws_wri rfl _ _ rfl (wriC x) rfl rfl HL65.out (wriC_one x) ?_)
      | (refine wl_wri rfl _ rfl wr.heap.size 0 rfl (wriC x) HRN.out HL65.out ?_))
     have hE := (Ext.refl wr).alloc (.cells (wriC x).toArray 205)
     refine (carry_of (HPD.out.ext hE) x HXM.out.1 HXM.out.2).mono ?_
     rintro e w3 ⟨⟨v, rfl⟩, hp3, hm3⟩
     have HP3 := Lib.hid hp3
     have HM3 := Lib.hid ((HMD.out.ext hE).then (Fdg.of_g hm3))
     clear hp3 hm3 hE
     go_wp2_with fail
     go_roundw
     case rel => exact ⟨j + 1, by omega, by go_num, by rw [take_snoc HX.out, comes_snoc]; exact HP3.out, HM3.out⟩
     case measure => simp [intOf]; omega
    ·have HTK : Hid (m.waits.take j = m.waits) := Lib.hid (List.take_of_length_le (by rw [HK.out]; omega))
     obtain ⟨⟨c0, c1, c2, c3, c4⟩, f0, f1, f2, f3, f4⟩ := HPD.out.cells
     clear c0 c1 c2 c3 f0 f1 f2 f3
     go_wp2_with fail
     go_ret
     have hpd := HPD.out
     rw [HTK.out] at hpd
     have hm4 : Mod (fun i => i = d) wr (wr.setCell ⟨d, 4, none⟩ (.slice none 0 0)) := (Mod.refl _ _).own_cell _ _
     refine ⟨.slice none 0 0, by rw [HP1.out]; rfl, ?_, .inr rfl, HMD.out.then (Fdg.of_d hm4)⟩
     refine hpd.cleared hm4 _ ?_ HO.out (by rw [HP1.out]) (by rw [HP1.out]) (by rw [HP1.out]) (by rw [HP1.out]) (by rw [HP1.out])
     rw [HP1.out]
     exact row_set 4 hpd.head _ rfl
end
section
open Go Go.RowKit
theorem PD.sec_turned {w w' : World} {d g : Nat} {pv : Value} {m : DM} (h : PD w d g pv m) (hm : Mod (fun i => i = g) w w') (m' : DM) (hok : m'.Ok) (hz : m'.size = m.size) (hmed : MedAt w' g m') (h1 : m'.waits = m.waits) (h2 : m'.down = m.down) (h3 : m'.dead = m.dead) (h4 : m'.power = m.power) : PD w' d g pv m' := by
 refine ⟨hok, by rw [hz]; exact h.n1, by rw [h4]; exact h.top, ?_, hmed, ?_, h.dg, h.pd⟩
 ·rw [hz, h4, show stOf m' = stOf m by unfold stOf; rw [h2, h3]]
  exact heap_mod h.head hm h.dg
 ·rw [h1]
  exact own_mod h.pen hm fun i hi => (h.pd i hi).2
theorem secC_get {r m : List Nat} {l : Bool} (hr : r.length = 64) (hm : m.length = 64) (j : Nat) (v : Value) (h : (secC r m l)[j]? = some v) : (j < 64 ∧ (vb r)[j]? = some v) ∨ (64 ≤ j ∧ j < 128 ∧ (vb m)[j - 64]? = some v) ∨ (j = 128 ∧ v = .bool l) := by
 unfold secC at h
 by_cases h1 : j < 64
 ·rw [List.getElem?_append_left (by rw [vb_length]; omega)] at h
  exact .inl ⟨h1, h⟩
 ·rw [List.getElem?_append_right (by rw [vb_length]; omega), vb_length, hr] at h
  by_cases h2 : j < 128
  ·rw [List.getElem?_append_left (by rw [vb_length]; omega)] at h
   exact .inr (.inl ⟨by omega, h2, h⟩)
  ·rw [List.getElem?_append_right (by rw [vb_length]; omega), vb_length, hm] at h
   have hj : j - 64 - 64 < 1 := (List.getElem?_eq_some_iff.1 h).1
   obtain rfl : j = 128 := by omega
   simp at h
   exact .inr (.inr ⟨rfl, h.symm⟩)
theorem secC_mk {r m : List Nat} {l : Bool} (hr : r.length = 64) (hm : m.length = 64) (j : Nat) (v : Value) (h : (j < 64 ∧ (vb r)[j]? = some v) ∨ (64 ≤ j ∧ j < 128 ∧ (vb m)[j - 64]? = some v) ∨ (j = 128 ∧ v = .bool l)) : (secC r m l)[j]? = some v := by
 unfold secC
 rcases h with ⟨h1, h⟩ | ⟨h1, h2, h⟩ | ⟨rfl, rfl⟩
 ·rw [List.getElem?_append_left (by rw [vb_length]; omega)]
  exact h
 ·rw [List.getElem?_append_right (by rw [vb_length]; omega), vb_length, hr, List.getElem?_append_left (by rw [vb_length]; omega)]
  exact h
 ·rw [List.getElem?_append_right (by rw [vb_length]; omega), vb_length, hr, List.getElem?_append_right (by rw [vb_length]; omega), vb_length, hm]
  rfl
theorem lose_eq (m : DM) (s : Int) : m.lose s = if m.has s = false then (2, m) else (0, { m with lost := m.lost.set s.toNat true }) := rfl
set_option maxHeartbeats 1600000 in
theorem lose_of {w : World} {d g : Nat} {pv : Value} {m : DM} (h : PD w d g pv m) (s : Int) :
 Calls Tryz.prog 130 #[.pointer (some ⟨d, 0, none⟩), .int .i64 s] w fun e w' => e = .returned (.int .i64 (m.lose s).1) ∧ PD w' d g pv (m.lose s).2 ∧ Mod (fun i => i = g) w w' := by
 have hx := (Ext.refl w).alloc (.cells #[.int .i64 s] 3)
 have h1 := h.ext hx
 have hz := ZsAt.one w s 3
 have hk := known_of h1 _ 1 1 [s] hz
 rw [known_one] at hk
 have HX := Lib.hid hx
 have H1 := Lib.hid h1
 have HP := Lib.hid (lose_eq m s)
 have HO := Lib.hid (DM.lose_ok h.ok s)
 clear h h1 hx hz
 by_cases hh : m.has s = false
 ·have HP1 : Hid (m.lose s = (2, m)) := Lib.hid (by rw [HP.out, if_pos hh])
  rw [if_pos hh] at hk
  have HK := Lib.hid hk
  clear hk hh HP
  go_enter Tryz.func130, Tryz.ntmps130
  go_wp2_with fail
  refine HK.out.mono ?_
  rintro e w1 ⟨rfl, rfl⟩
  go_wp2_with fail
  go_ret
  exact ⟨by rw [HP1.out]; rfl, by rw [HP1.out]; exact H1.out, Mod.of_ext HX.out⟩
 ·rw [if_neg hh] at hk
  have HK := Lib.hid hk
  have HP1 : Hid (m.lose s = (0, { m with lost := m.lost.set s.toNat true })) := Lib.hid (by rw [HP.out, if_neg hh])
  have hhas : m.has s = true := by simpa using hh
  obtain ⟨hs0, hs1⟩ := DM.has_iff.1 hhas
  obtain ⟨k, rfl⟩ := Int.eq_ofNat_of_zero_le hs0
  have hks : k < m.size := by omega
  rw [Int.toNat_natCast] at HP1
  clear hk hh hhas HP
  go_enter Tryz.func130, Tryz.ntmps130
  go_wp2_with fail
  refine HK.out.mono ?_
  rintro e w1 ⟨rfl, rfl⟩
  obtain ⟨⟨c0, c1, c2, c3, c4⟩, f0, f1, f2, f3, f4⟩ := H1.out.cells
  generalize w.alloc (.cells #[.int .i64 (k : Int)] 3) = w1 at *
  obtain ⟨cur, hg, hsz, hcur⟩ := H1.out.med
  have hle : (k + 1) * 129 ≤ m.size * 129 := Nat.mul_le_mul_right _ hks
  have hth := (there_of hg (k * 129 + 128) 1 (by omega)) 0 (by omega)
  rw [Nat.add_zero] at hth
  obtain ⟨u, hu⟩ := Option.isSome_iff_exists.1 hth.1
  have hfr := hth.2
  clear c0 c1 c2 c4 f0 f1 f2 f3 f4 hg hsz hcur hle hth
  go_wp2_with fail
  go_ret
  have hm : Mod (fun i => i = g) w1 (w1.setCells g (k * 129 + 128) [.bool true]) := mod_setCells _ _ _ _
  have hrl := (H1.out.ok.rest_at hks).1
  have hml := (H1.out.ok.meant_at hks).1
  refine ⟨by rw [HP1.out]; rfl, ?_, (Mod.of_ext HX.out).then hm⟩
  have hO := HO.out
  rw [HP1.out] at hO ⊢
  have hsec : ∀ i, ({ m with lost := m.lost.set k true } : DM).sec i = if i = k then secC (m.rest.getD k []) (m.meant.getD k []) true else m.sec i := fun i => by
   unfold DM.sec
   by_cases e : k = i
   ·subst e
    rw [if_pos rfl]
    simp only
    rw [getD_set (show k < m.lost.length by rw [H1.out.ok.lost]; exact hks), if_pos rfl]
   ·rw [if_neg fun h => e h.symm]
    simp only
    rw [getD_set_ne e]
  refine H1.out.sec_turned hm _ hO rfl ?_ rfl rfl rfl rfl
  refine H1.out.med.set (m' := { m with lost := m.lost.set k true }) hks 128 [.bool true] rfl (by simp) (fun i hi hne => by rw [hsec, if_neg hne]) (fun i hi => by
   rw [hsec]
   split
   ·exact secC_len hrl hml
   ·exact H1.out.ok.sec_len hi) (fun j v hv => ?_)
  rw [hsec, if_pos rfl] at hv
  rcases secC_get hrl hml j v hv with ⟨a1, a2⟩ | ⟨a1, a2, a3⟩ | ⟨rfl, rfl⟩
  ·rw [if_neg (by simp; omega)]
   exact secC_mk hrl hml j v (.inl ⟨a1, a2⟩)
  ·rw [if_neg (by simp; omega)]
   exact secC_mk hrl hml j v (.inr (.inl ⟨a1, a2, a3⟩))
  ·rw [if_pos (by simp)]
   rfl
end
section
open Go Go.RowKit
theorem known_two (m : DM) (a b : Int) : knownE m.size [a, b] = if m.has a = false ∨ m.has b = false then 2 else 0 := by
 unfold knownE DM.has
 by_cases ha : 0 ≤ a ∧ a < (m.size : Int)
 ·by_cases hb : 0 ≤ b ∧ b < (m.size : Int)
  ·rw [if_pos (by simp; omega), if_neg (by simp; omega)]
  ·rw [if_neg (by simp; omega), if_pos (by simp; omega)]
 ·rw [if_neg (by simp; omega), if_pos (by simp; omega)]
theorem ZsAt.two (w : World) (a b : Int) (t : TypeId) : ZsAt (w.alloc (.cells #[.int .i64 a, .int .i64 b] t)) (some ⟨w.heap.size, 0, none⟩) 2 [a, b] := by
 refine ⟨rfl, by omega, fun _ => ⟨_, rfl, fun j z hz => ?_⟩⟩
 rw [World.cell?_alloc_new]
 have hj : j < 2 := (List.getElem?_eq_some_iff.1 hz).1
 match j, hj with
 | 0, _ => simp at hz; subst hz; rfl
 | 1, _ => simp at hz; subst hz; rfl
theorem agg_med (w : World) : (isAgg 271).run Tryz.prog w = .ok true w := by
 unfold isAgg
 rw [Sem.run_bind, run_underlying Tryz.underlying271 w]
 rfl
theorem agg_wri (w : World) : (isAgg 205).run Tryz.prog w = .ok true w := by
 unfold isAgg
 rw [Sem.run_bind, run_underlying Tryz.underlying205 w]
 rfl
theorem size_med : ∃ N, N = 129 ∧ ∀ w, (sizeOf 271).run Tryz.prog w = .ok N w := ⟨129, rfl, fun w => by
 have h := sz_med
 cases hq : Tryz.prog.info? 271 with
 | none => simp [hq] at h
 | some i => simp [hq] at h; simp [sizeOf, typeInfo, hq, h]⟩
theorem size_wri : ∃ N, N = 65 ∧ ∀ w, (sizeOf 205).run Tryz.prog w = .ok N w := ⟨65, rfl, fun w => by
 have h := sz_wri
 cases hq : Tryz.prog.info? 205 with
 | none => simp [hq] at h
 | some i => simp [hq] at h; simp [sizeOf, typeInfo, hq, h]⟩
theorem lcf (w : World) (g o N : Nat) (cs : List Value) (hl : cs.length = N) (h : w.rangeAt g o cs) : (loadCellsFrom ⟨g, o, none⟩ 0 N #[]).run Tryz.prog w = .ok cs.toArray w := by
 subst hl
 exact run_loadCells_list (P := Tryz.prog) w ⟨g, o, none⟩ cs (fun j v hv => by rw [Addr.add_mid]; exact h j v hv)
theorem scs (w : World) (t : TypeId) (c : Array Value) (cs : List Value) (hl : c.size = cs.length) (h1 : ∀ v ∈ cs, v.oneCell' = true) : (storeCells ⟨w.heap.size, 0, none⟩ cs 0).run Tryz.prog (w.alloc (.cells c t)) = .ok () (w.alloc (.cells cs.toArray t)) := by
 have h := run_storeCells_cells (P := Tryz.prog) w.heap.size 0 cs 0 (w.alloc (.cells c t)) (fun j hj => by
  rw [World.cell?_alloc_new, Array.getElem?_eq_getElem (by omega)]; rfl) (fun j hj => World.frozen?_alloc_new _ _ _ _) h1
 rw [h]
 congr 1
 have e : ((w.alloc (.cells c t)).setCells w.heap.size (0 + 0) cs) = w.alloc (.cells cs.toArray t) := by
  have key : ∀ (vs : List Value) (o : Nat) (c : Array Value), (w.alloc (.cells c t)).setCells w.heap.size o vs = w.alloc (.cells (vs.zipIdx o |>.foldl (fun a (p : Value × Nat) => a.setIfInBounds p.2 p.1) c) t) := by
   intro vs
   induction vs with
   | nil => intro o c; rfl
   | cons v r ih =>
    intro o c
    rw [World.setCells, World.setCell_alloc_new, ih]
    rfl
  rw [key]
  have := fold_put cs [] c.toList [] (by rw [Array.length_toList]; exact hl)
  simp only [List.length_nil, List.nil_append, List.append_nil] at this
  rw [show (0 + 0) = 0 from rfl]
  congr 2
 exact e
theorem stray_eq (m : DM) (a b : Int) : m.stray a b = if m.has a = false ∨ m.has b = false then (2, m) else (0, { m with rest := m.rest.set b.toNat (m.rest.getD a.toNat []), lost := m.lost.set b.toNat (m.lost.getD a.toNat false) }) := rfl
set_option maxHeartbeats 3200000 in
theorem stray_of {w : World} {d g : Nat} {pv : Value} {m : DM} (h : PD w d g pv m) (a b : Int) :
 Calls Tryz.prog 131 #[.pointer (some ⟨d, 0, none⟩), .int .i64 a, .int .i64 b] w fun e w' => e = .returned (.int .i64 (m.stray a b).1) ∧ PD w' d g pv (m.stray a b).2 ∧ Mod (fun i => i = g) w w' := by
 have hx := (Ext.refl w).alloc (.cells #[.int .i64 a, .int .i64 b] 3)
 have h1 := h.ext hx
 have hz := ZsAt.two w a b 3
 have hk := known_of h1 _ 2 2 [a, b] hz
 rw [known_two] at hk
 have HX := Lib.hid hx
 have H1 := Lib.hid h1
 have HP := Lib.hid (stray_eq m a b)
 have HO := Lib.hid (DM.stray_ok h.ok a b)
 clear h h1 hx hz
 by_cases hh : m.has a = false ∨ m.has b = false
 ·have HP1 : Hid (m.stray a b = (2, m)) := Lib.hid (by rw [HP.out, if_pos hh])
  rw [if_pos hh] at hk
  have HK := Lib.hid hk
  clear hk hh HP
  go_enter Tryz.func131, Tryz.ntmps131
  go_wp2_with fail
  refine HK.out.mono ?_
  rintro e w1 ⟨rfl, rfl⟩
  go_wp2_with fail
  go_ret
  exact ⟨by rw [HP1.out]; rfl, by rw [HP1.out]; exact H1.out, Mod.of_ext HX.out⟩
 ·rw [if_neg hh] at hk
  have HK := Lib.hid hk
  have HP1 := Lib.hid (show m.stray a b = _ by rw [HP.out, if_neg hh])
  have ha1 : m.has a = true := by
   cases hq : m.has a with
   | true => rfl
   | false => exact absurd (.inl hq) hh
  have hb1 : m.has b = true := by
   cases hq : m.has b with
   | true => rfl
   | false => exact absurd (.inr hq) hh
  obtain ⟨ha0, ha2⟩ := DM.has_iff.1 ha1
  obtain ⟨hb0, hb2⟩ := DM.has_iff.1 hb1
  obtain ⟨k, rfl⟩ := Int.eq_ofNat_of_zero_le ha0
  obtain ⟨l, rfl⟩ := Int.eq_ofNat_of_zero_le hb0
  have hks : k < m.size := by omega
  have hls : l < m.size := by omega
  rw [Int.toNat_natCast, Int.toNat_natCast] at HP1
  clear hk hh ha1 hb1 HP
  go_enter Tryz.func131, Tryz.ntmps131
  go_wp2_with fail
  refine HK.out.mono ?_
  rintro e w1 ⟨rfl, rfl⟩
  generalize w.alloc (.cells #[.int .i64 (k : Int), .int .i64 (l : Int)] 3) = w1 at *
  go_wp2_with fail
  obtain ⟨⟨_, _, _, c3, _⟩, _⟩ := H1.out.cells
  obtain ⟨N, hN, hsz⟩ := size_med
  have HN := Lib.hid hN
  have hag := agg_med
  have hzv := zv_med
  have hlen : (m.sec k).length = N := by rw [hN]; exact H1.out.ok.sec_len hks
  have hr : w1.rangeAt g (k * N) (m.sec k) := by rw [hN]; exact H1.out.med.range hks
  have hld : ∀ w', World.rangeAt w' g (k * N) (m.sec k) → (loadCellsFrom ⟨g, k * N, none⟩ 0 N #[]).run Tryz.prog w' = .ok (m.sec k).toArray w' := fun w' h => lcf w' g _ N _ hlen h
  have hst : (storeCells ⟨w1.heap.size, 0, none⟩ (m.sec k) 0).run Tryz.prog (w1.alloc (.cells zMed 271)).drew = .ok () (w1.alloc (.cells (m.sec k).toArray 271)).drew := scs w1.drew 271 zMed (m.sec k) (by rw [zMed_size, hlen, hN]) (secC_one _ _ _)
  have hS0 : (w1.drew.cell? ⟨d, 3, none⟩ = some (.slice (some ⟨g, 0, none⟩) m.size m.size) ∧ w1.drew.rangeAt g (k * N) (m.sec k)) := ⟨c3, hr⟩
  have hS1 : ((w1.alloc (.cells zMed 271)).drew.cell? ⟨d, 3, none⟩ = some (.slice (some ⟨g, 0, none⟩) m.size m.size) ∧ (w1.alloc (.cells zMed 271)).drew.rangeAt g (k * N) (m.sec k)) := ⟨(H1.out.ext (((Ext.refl w1).alloc _).drew)).cells.1.2.2.2.1, World.rangeAt_alloc hr _⟩
  have hS2 : ((w1.alloc (.cells (m.sec k).toArray 271)).drew.cell? ⟨d, 3, none⟩ = some (.slice (some ⟨g, 0, none⟩) m.size m.size) ∧ (w1.alloc (.cells (m.sec k).toArray 271)).drew.rangeAt g (k * N) (m.sec k)) := ⟨(H1.out.ext (((Ext.refl w1).alloc _).drew)).cells.1.2.2.2.1, World.rangeAt_alloc hr _⟩
  clear hN hr c3
  go_region_held3 (fun w' => w'.cell? ⟨d, 3, none⟩ = some (.slice (some ⟨g, 0, none⟩) m.size m.size) ∧ w'.rangeAt g (k * N) (m.sec k))
   (first | with_reducible exact hS0 | with_reducible exact hS1 | with_reducible exact hS2)
   (fail)
  have hN := HN.out
  subst hN
  have hE2 := ((Ext.refl w1).alloc (.cells (m.sec k).toArray 271)).drew
  have hrn : (w1.alloc (.cells (m.sec k).toArray 271)).drew.rangeAt w1.heap.size 0 (vb (m.rest.getD k [])) := range_new w1 _ _ [] _ _ (sec_cut m k) 0 rfl
  have hc128 : (w1.alloc (.cells (m.sec k).toArray 271)).drew.cell? ⟨w1.heap.size, 128, none⟩ = some (.bool (m.lost.getD k false)) := by
   rw [show (w1.alloc (.cells (m.sec k).toArray 271)).drew.cell? ⟨w1.heap.size, 128, none⟩ = (w1.alloc (.cells (m.sec k).toArray 271)).cell? ⟨w1.heap.size, 128, none⟩ from rfl, World.cell?_alloc_new, List.getElem?_toArray, sec_lost H1.out.ok hks]
  have H2 := Lib.hid (H1.out.ext hE2)
  have HX2 := Lib.hid (HX.out.trans hE2)
  have hne : w1.heap.size ≠ g := Nat.ne_of_gt H1.out.glt
  have hsr := H1.out.ok.rest_at hks
  clear hS0 hS1 hS2 hst hld hag hzv hsz hlen HN hE2
  generalize (w1.alloc (.cells (m.sec k).toArray 271)).drew = w2 at *
  generalize hR : m.rest.getD k [] = R at *
  generalize hL : m.lost.getD k false = L at *
  have HRr := Lib.hid hR
  have HLl := Lib.hid hL
  have hRl : (vb R).length = 64 := by rw [vb_length]; exact hsr.1
  have hR1 := vb_one R
  have HSR := Lib.hid hsr
  generalize hV : vb R = V at *
  have HV := Lib.hid hV
  have hu85 : Tryz.prog.underlying 203 = some (.array 64 5) := un_con
  have hi85 : (Tryz.prog.info? 203).map (·.size) = some V.length := by rw [hRl]; exact sz_con
  obtain ⟨cur, hg, hsz, hcur⟩ := H2.out.med
  have hle : (l + 1) * 129 ≤ m.size * 129 := Nat.mul_le_mul_right _ hls
  have hth : w2.there g (l * 129) V.length := there_of hg _ _ (by omega)
  obtain ⟨cs1, k1, k2, k3, k4⟩ := heap_setCells V (l * 129) hg (by omega)
  have hth2 : ∃ u, (w2.drew.setCells g (l * 129) V).cell? ⟨g, l * 129 + 128, none⟩ = some u := by
   have hlt : l * 129 + 128 < cs1.size := by omega
   refine ⟨cs1[l * 129 + 128], ?_⟩
   exact cell_of_row (w2.drew.setCells g (l * 129) V) g (l * 129 + 128) cs1 _ _ (by
    obtain ⟨cs2, q1, q2, q3, q4⟩ := heap_setCells (w := w2.drew) V (l * 129) hg (by omega)
    have e : cs2 = cs1 := by
     apply Array.ext_getElem?
     intro i
     by_cases hi : l * 129 ≤ i ∧ i < l * 129 + V.length
     ·obtain ⟨v, hv⟩ : ∃ v, V[i - l * 129]? = some v := ⟨_, List.getElem?_eq_getElem (by omega)⟩
      have e1 := q3 _ v hv
      have e2 := k3 _ v hv
      rw [show l * 129 + (i - l * 129) = i by omega] at e1 e2
      rw [e1, e2]
     ·rw [q4 i (by omega), k4 i (by omega)]
    rw [← e]
    exact q1) |>.trans (Array.getElem?_eq_getElem hlt)
  obtain ⟨u, hcu⟩ := hth2
  have hfu : (w2.drew.setCells g (l * 129) V).frozen? ⟨g, l * 129 + 128, none⟩ = false := by
   rw [World.frozen?_setCells]
   exact frozen_of_row w2 g _ _ _ hg
  have hc2 : (w2.drew.setCells g (l * 129) V).cell? ⟨w1.heap.size, 128, none⟩ = some (.bool L) := by
   rw [World.cell?_setCells_out _ _ _ _ _ (fun h _ => absurd h hne)]
   exact hc128
  have hc3 : ((w2.drew.setCells g (l * 129) V).setCell ⟨g, l * 129 + 128, none⟩ (.bool L)).cell? ⟨w1.heap.size, 128, none⟩ = some (.bool L) := by
   rw [World.cell?_setCell_far _ _ _ _ (fun h => hne h.symm)]
   exact hc2
  have hT0 : (w2.drew.rangeAt w1.heap.size 0 V ∧ w2.drew.cell? ⟨w1.heap.size, 128, none⟩ = some (.bool L) ∧ w2.drew.there g (l * 129) V.length) := ⟨hrn, hc128, hth⟩
  have hT1 : ((w2.drew.setCells g (l * 129) V).rangeAt w1.heap.size 0 V ∧ (w2.drew.setCells g (l * 129) V).cell? ⟨w1.heap.size, 128, none⟩ = some (.bool L) ∧ (w2.drew.setCells g (l * 129) V).there g (l * 129) V.length) :=
   ⟨World.rangeAt_setCells_apart (w := w2.drew) hrn g _ V (.inl hne), hc2, World.there_setCells (w := w2.drew) hth g _ V⟩
  have hT2 : (((w2.drew.setCells g (l * 129) V).setCell ⟨g, l * 129 + 128, none⟩ (.bool L)).rangeAt w1.heap.size 0 V ∧ ((w2.drew.setCells g (l * 129) V).setCell ⟨g, l * 129 + 128, none⟩ (.bool L)).cell? ⟨w1.heap.size, 128, none⟩ = some (.bool L) ∧ ((w2.drew.setCells g (l * 129) V).setCell ⟨g, l * 129 + 128, none⟩ (.bool L)).there g (l * 129) V.length) :=
   ⟨World.rangeAt_setCells_apart hT1.1 g _ [.bool L] (.inl hne), hc3, World.there_setCells hT1.2.2 g _ [.bool L]⟩
  have HHG := Lib.hid hg
  clear hg hsz hcur hle hth k1 k2 k3 k4 hc2 hc3 hrn hc128 hR hL hV hsr
  go_wp2_with fail
  go_region_held3 (fun w' => w'.rangeAt w1.heap.size 0 V ∧ w'.cell? ⟨w1.heap.size, 128, none⟩ = some (.bool L) ∧ w'.there g (l * 129) V.length)
   (first | with_reducible exact hT0 | with_reducible exact hT1 | with_reducible exact hT2)
   (fail)
  clear hT0 hT1 hT2 hcu hfu hu85 hi85
  go_wp2_with fail
  go_ret
  have hR := HRr.out
  have hL := HLl.out
  have hv := HV.out
  subst hv
  have hsrR := HSR.out.1
  have hml := (H2.out.ok.meant_at hls).1
  have hrl := (H2.out.ok.rest_at hls).1
  have hd2 := H2.out.ext (Ext.refl w2).drew
  have hm : Mod (fun i => i = g) w2 ((w2.drew.setCells g (l * 129) (vb R)).setCell ⟨g, l * 129 + 128, none⟩ (.bool L)) :=
   ((Mod.refl (fun i => i = g) w2).drew.setCells g _ (vb R) (.inl rfl)).own_cell _ _
  refine ⟨by rw [HP1.out]; rfl, ?_, (Mod.of_ext HX2.out).then hm⟩
  have hO := HO.out
  rw [HP1.out] at hO ⊢
  have za : ({ m with rest := m.rest.set l R } : DM).size = m.size := by simp [DM.size]
  have zb : ({ m with rest := m.rest.set l R, lost := m.lost.set l L } : DM).size = m.size := by simp [DM.size]
  have seca : ∀ i, ({ m with rest := m.rest.set l R } : DM).sec i = if i = l then secC R (m.meant.getD l []) (m.lost.getD l false) else m.sec i := fun i => by
   unfold DM.sec
   by_cases e : l = i
   ·subst e
    rw [if_pos rfl]
    simp only
    rw [getD_set (show l < m.rest.length from hls), if_pos rfl]
   ·rw [if_neg fun h => e h.symm]
    simp only
    rw [getD_set_ne e]
  have secb : ∀ i, ({ m with rest := m.rest.set l R, lost := m.lost.set l L } : DM).sec i = if i = l then secC R (m.meant.getD l []) L else m.sec i := fun i => by
   unfold DM.sec
   by_cases e : l = i
   ·subst e
    rw [if_pos rfl]
    simp only
    rw [getD_set (show l < m.rest.length from hls), if_pos rfl, getD_set (show l < m.lost.length by rw [H2.out.ok.lost]; exact hls), if_pos rfl]
   ·rw [if_neg fun h => e h.symm]
    simp only
    rw [getD_set_ne e, getD_set_ne e]
  have med1 : MedAt (w2.drew.setCells g (l * 129 + 0) (vb R)) g { m with rest := m.rest.set l R } := by
   refine hd2.med.set (m' := { m with rest := m.rest.set l R }) hls 0 (vb R) za (by rw [vb_length]; omega) (fun i hi hne => by rw [seca, if_neg hne]) (fun i hi => by
    rw [seca]
    split
    ·exact secC_len hsrR hml
    ·exact H2.out.ok.sec_len hi) (fun j v hv => ?_)
   rw [seca, if_pos rfl] at hv
   rcases secC_get hsrR hml j v hv with ⟨a1, a2⟩ | ⟨a1, a2, a3⟩ | ⟨rfl, rfl⟩
   ·rw [if_pos ⟨by omega, by rw [vb_length]; omega⟩]
    exact a2
   ·rw [if_neg (by rw [vb_length]; omega)]
    exact secC_mk hrl hml j v (.inr (.inl ⟨a1, a2, a3⟩))
   ·rw [if_neg (by rw [vb_length]; omega)]
    exact secC_mk hrl hml 128 _ (.inr (.inr ⟨rfl, rfl⟩))
  have med2 : MedAt ((w2.drew.setCells g (l * 129 + 0) (vb R)).setCells g (l * 129 + 128) [.bool L]) g { m with rest := m.rest.set l R, lost := m.lost.set l L } := by
   refine med1.set (m' := { m with rest := m.rest.set l R, lost := m.lost.set l L }) (by rw [za]; exact hls) 128 [.bool L] (by rw [za, zb]) (by simp) (fun i hi hne => by rw [seca, secb, if_neg hne, if_neg hne]) (fun i hi => by
    rw [za] at hi
    rw [secb]
    split
    ·exact secC_len hsrR hml
    ·exact H2.out.ok.sec_len hi) (fun j v hv => ?_)
   rw [secb, if_pos rfl] at hv
   rw [seca, if_pos rfl]
   rcases secC_get hsrR hml j v hv with ⟨a1, a2⟩ | ⟨a1, a2, a3⟩ | ⟨rfl, rfl⟩
   ·rw [if_neg (by simp; omega)]
    exact secC_mk hsrR hml j v (.inl ⟨a1, a2⟩)
   ·rw [if_neg (by simp; omega)]
    exact secC_mk hsrR hml j v (.inr (.inl ⟨a1, a2, a3⟩))
   ·rw [if_pos (by simp)]
    rfl
  exact H2.out.sec_turned hm _ hO zb med2 rfl rfl rfl rfl
end
section
open Go Go.RowKit Go.Shelf
attribute [local go_sem] Oper.semAt_some
abbrev W65 := { x : Nat × List Nat // Sect x.2 }
abbrev WI := Int × W65
def encW (x : WI) : Array Value := #[.int .i64 x.1, .agg (wriC x.2.1).toArray]
def lastK (ws : List W65) (k : Nat) : List W65 := ws.reverse.take k
theorem lastK_succ {ws : List W65} {q : Nat} {x : W65} (hx : ws[q]? = some x) : lastK ws (ws.length - q) = lastK ws (ws.length - (q + 1)) ++ [x] := by
 have hq : q < ws.length := (List.getElem?_eq_some_iff.1 hx).1
 unfold lastK
 rw [show ws.length - q = (ws.length - (q + 1)) + 1 by omega, List.take_add_one]
 congr 1
 rw [List.getElem?_reverse (by omega), show ws.length - 1 - (ws.length - (q + 1)) = q by omega, hx]
 rfl
set_option maxHeartbeats 4000000 in
theorem back1_in (F : Fence) (n : Nat) (h56 : F.fn 263) (hro : F.round = none) (hn : 1 ≤ n) (l Bs n₀ b cap : Nat) (ws : List W65) (hlen : ws.length ≤ 9000000000000000000) (hb : b < n₀) (hB : Bs < n₀) (J Jx : List WI → World → Prop)
 (hY : ∀ pre x W, J pre W → pre.length < ws.length → YieldAt F (n - 1) Tryz.prog l (encW x) W fun e W' =>
  (e = .returned (.bool true) ∧ J (pre ++ [x]) W' ∧ Below n₀ W W') ∨ (e = .returned (.bool false) ∧ Jx (pre ++ [x]) W'))
 (W : World) (hBs : W.cell? ⟨Bs, 0, none⟩ = some (.slice (some ⟨b, 0, none⟩) ws.length cap)) (hc : ∀ j x, ws[j]? = some x → W.rangeAt b (j * 65) (wriC x.1)) (h0 : J [] W) :
 CallsIn F n Tryz.prog 263 #[.func (.yield l) #[] #[], .pointer (some ⟨Bs, 0, none⟩)] W fun e W' => (∃ v, e = .returned v) ∧
  ((∃ ys : List WI, ys.map (fun p => p.2) = ws.reverse ∧ J ys W') ∨ (∃ pre : List WI, (∃ k, pre.map (fun p => p.2) = lastK ws k) ∧ Jx pre W')) := by
 obtain ⟨N, hN, hsz⟩ := size_wri
 have hag := agg_wri
 have HN := Lib.hid hN
 obtain ⟨L, hL⟩ : ∃ L, ws.length = L := ⟨_, rfl⟩
 have HL := Lib.hid hL
 have HC := Lib.hid hc
 rw [hL] at hBs hlen
 clear hN hL hc
 refine callsIn_of_wp Tryz.func263 rfl h56 ?_ hro
 simp only [Tryz.ntmps263, List.size_toArray, List.length_cons, List.length_nil, Nat.reduceAdd, Nat.reduceSub, Array.replicate_succ, Array.replicate_zero, List.push_toArray, List.append_toArray, List.nil_append, List.cons_append]
 gi_wp2
 gi_loopw [3] (fun i wr => ∃ (q : Nat) (pre : List WI), q ≤ L ∧ i = .int .i64 ((q : Int) - 1) ∧ pre.map (fun p => p.2) = lastK ws (L - q) ∧ J pre wr ∧ Below n₀ W wr) (fun i _ => (intOf i + 1).toNat)
 case atStart => exact ⟨L, [], Nat.le_refl _, by go_num, by simp [lastK], h0, Below.refl _ _⟩
 case round =>
  obtain ⟨q, pre, hq, rfl, hpre, hJs, hnx⟩ := hrel
  have HP := Lib.hid hpre
  have HNX := Lib.hid hnx
  have hbs := (hnx.cell (p := ⟨Bs, 0, none⟩) hB).trans hBs
  have hlp : pre.length = L - q := by
   have h1 := congrArg List.length hpre
   rw [List.length_map] at h1
   rw [h1, lastK, List.length_take, List.length_reverse, HL.out]
   omega
  clear hpre hnx
  cases q with
  | zero =>
   have HF : Hid (pre.map (fun p => p.2) = ws.reverse) := Lib.hid (by
    rw [HP.out, lastK, List.take_of_length_le (by rw [List.length_reverse, HL.out]; omega)])
   simp only [Int.natCast_zero, Int.zero_sub] at *
   gi_wp2
   go_end0
   exact ⟨⟨_, rfl⟩, .inl ⟨pre, HF.out, hJs⟩⟩
  | succ q =>
   rw [show ((q + 1 : Nat) : Int) - 1 = (q : Int) by omega]
   obtain ⟨x, hx⟩ : ∃ x, ws[q]? = some x := ⟨_, List.getElem?_eq_getElem (by rw [HL.out]; omega)⟩
   have hr : wr.rangeAt b (q * N) (wriC x.1) := by
    rw [HN.out]
    intro j v hv
    exact (HNX.out.cell (p := ⟨b, q * 65 + j, none⟩) hb).trans (HC.out q x hx j v hv)
   have hl65 : (wriC x.1).length = N := by rw [HN.out]; exact wriC_len x.2.1
   have hld : (loadCellsFrom ⟨b, q * N, none⟩ 0 N #[]).run Tryz.prog wr = .ok (wriC x.1).toArray wr := lcf wr b _ N _ hl65 hr
   obtain ⟨fn, tmps, assign, body, hy, hR⟩ := hY pre ((q : Int), x) wr hJs (by rw [hlp, HL.out]; omega)
   have HX := Lib.hid hx
   have hq0 : (0 : Int) ≤ (q : Int) := by omega
   have hqL : (q : Int) < (L : Int) := by omega
   dsimp only [encW] at hy
   clear hr hx hl65
   gi_wp2
   refine hR.mono ?_
   rintro e W3 (⟨rfl, hJ3, hk3⟩ | ⟨rfl, hJx3⟩)
   ·gi_wp2
    go_roundw
    case rel => exact ⟨q, pre ++ [((q : Int), x)], by omega, by go_num, by
     rw [List.map_append, HP.out]
     have := lastK_succ HX.out
     rw [HL.out] at this
     rw [this]
     rfl, hJ3, HNX.out.trans hk3⟩
    case measure => simp [intOf]
   ·gi_wp2
    refine bodyPost_ret (results_none rfl _ _ _) rfl ?_
    exact ⟨⟨_, rfl⟩, .inr ⟨pre ++ [((q : Int), x)], ⟨L - q, by
     rw [List.map_append, HP.out]
     have := lastK_succ HX.out
     rw [HL.out] at this
     rw [this]
     rfl⟩, hJx3⟩⟩
set_option maxHeartbeats 1000000 in
theorem back1_nil_in (F : Fence) (n : Nat) (h56 : F.fn 263) (hro : F.round = none) (l Bs : Nat) (J : List WI → World → Prop) (W : World) (hBs : W.cell? ⟨Bs, 0, none⟩ = some (.slice none 0 0)) (h0 : J [] W) :
 CallsIn F n Tryz.prog 263 #[.func (.yield l) #[] #[], .pointer (some ⟨Bs, 0, none⟩)] W fun e W' => (∃ v, e = .returned v) ∧ J [] W' := by
 refine callsIn_of_wp Tryz.func263 rfl h56 ?_ hro
 simp only [Tryz.ntmps263, List.size_toArray, List.length_cons, List.length_nil, Nat.reduceAdd, Nat.reduceSub, Array.replicate_succ, Array.replicate_zero, List.push_toArray, List.append_toArray, List.nil_append, List.cons_append]
 gi_wp2
 gi_loopw [3] (fun i wr => i = .int .i64 (-1) ∧ J [] wr) (fun _ _ => 0)
 case atStart => exact ⟨rfl, h0⟩
 case round =>
  obtain ⟨rfl, hJs⟩ := hrel
  gi_wp2
  go_end0
  exact ⟨⟨_, rfl⟩, hJs⟩
set_option maxHeartbeats 1000000 in
theorem back_in (a : Option Addr) (len cap : Nat) (w : World) :
 Calls Tryz.prog 246 #[.slice a len cap] w fun e w' => e = .returned (.func (.func 263) #[] #[.pointer (some ⟨w.heap.size, 0, none⟩)]) ∧ w' = w.alloc (.cells #[.slice a len cap] 93) := by
 go_enter Tryz.func246, Tryz.ntmps246
 go_wp2
 go_ret
 exact ⟨rfl, rfl⟩
def wsOfW (l : List (Nat × List Nat)) (h : ∀ x ∈ l, Sect x.2) : List W65 := l.attach.map fun y => ⟨y.1, h y.1 y.2⟩
theorem wsOfW_map (l : List (Nat × List Nat)) (h : ∀ x ∈ l, Sect x.2) : (wsOfW l h).map (fun y => y.1) = l := by
 unfold wsOfW
 rw [List.map_map]
 exact List.attach_map_subtype_val l
theorem wsOfW_len (l : List (Nat × List Nat)) (h : ∀ x ∈ l, Sect x.2) : (wsOfW l h).length = l.length := by simp [wsOfW]
theorem back_stops (n : Nat) (hn : 1 ≤ n) {W : World} {d g : Nat} {pv : Value} {m : DM} (h : PD W d g pv m) (hfew : m.waits.length ≤ 9000000000000000000) (Bs : Nat) (hBs : W.cell? ⟨Bs, 0, none⟩ = some pv) :
 SeqStopsK Fence.wide n Tryz.prog 263 #[.pointer (some ⟨Bs, 0, none⟩)] encW (Below W.heap.size)
  (fun ys : List WI => ys.map (fun p => p.2.1) = m.waits.reverse) (fun pre : List WI => ∃ k, pre.map (fun p => p.2.1) = m.waits.reverse.take k) m.waits.length W := fun l J Jx V hV _ _ hY h0 => by
 have hBl : Bs < W.heap.size := World.block_lt_of_cell? W _ hBs
 have hBs' := (hV.cell (p := ⟨Bs, 0, none⟩) hBl).trans hBs
 have hws : ∀ x ∈ m.waits, Sect x.2 := fun x hx => (h.ok.waits x hx).2
 have hmp := wsOfW_map m.waits hws
 have hml := wsOfW_len m.waits hws
 have conv : ∀ ys : List WI, ys.map (fun p => p.2.1) = (ys.map (fun p => p.2)).map (fun y => y.1) := fun ys => by rw [List.map_map]; rfl
 rcases h.pen.2 with ⟨e, hz⟩ | ⟨b, cap, cur, e, _, hg, _⟩
 ·rw [e] at hBs'
  have hm0 : m.waits = [] := List.eq_nil_of_length_eq_zero hz
  exact (back1_nil_in Fence.wide n trivial rfl l Bs J V hBs' h0).mono fun e W' ⟨he, hj⟩ => ⟨he, .inl ⟨[], by rw [hm0]; rfl, hj⟩⟩
 ·rw [e, ← hml] at hBs'
  have hb : b < W.heap.size := (Array.getElem?_eq_some_iff.1 hg).1
  refine (back1_in Fence.wide n trivial rfl hn l Bs W.heap.size b cap (wsOfW m.waits hws) (by rw [hml]; exact hfew) hb hBl J Jx (fun pre x W' hj hlt => hY pre x W' hj (by rw [← hml]; exact hlt)) V hBs' (fun j x hx => ?_) h0).mono ?_
  ·have hx2 : m.waits[j]? = some x.1 := by
    rw [← hmp, List.getElem?_map, hx]
    rfl
   obtain ⟨b', c', e2, hr⟩ := h.pen_at hx2
   rw [e] at e2
   injection e2 with e3 _ _
   injection e3 with e3
   injection e3 with e3
   subst e3
   intro i v hv
   exact (hV.cell (p := ⟨b, j * 65 + i, none⟩) hb).trans (hr i v hv)
  ·rintro e W' ⟨he, ⟨ys, hys, hj⟩ | ⟨pre, ⟨k, hk⟩, hj⟩⟩
   ·exact ⟨he, .inl ⟨ys, (conv ys).trans (by rw [hys, List.map_reverse, hmp]), hj⟩⟩
   ·exact ⟨he, .inr ⟨pre, ⟨k, (conv pre).trans (by rw [hk, lastK, List.map_take, List.map_reverse, hmp])⟩, hj⟩⟩
end
end Go.Proofs.YtmpaocpgoihliaaGreatDoor
