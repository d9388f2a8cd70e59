/-
  The contract of the disk's Crash.
-/
import Derived.Test.YtldgamgdbneneaaKFlush
namespace Go.Proofs.Ytldgamgdbneneaa
set_option maxRecDepth 100000
open Go Go.RowKit

theorem Vs.mod {w w' : World} {B : Nat} {A : Option Addr} {n c : Nat} {vs : List Value} {F : Nat → Prop} (h : Vs w B A n c vs) (k : Mod F w w') (hB : B ≤ w.heap.size) (ho : 0 < n → Off F A) : Vs w' B A n c vs :=
  ⟨h.len, h.cap, h.most, fun hn => by
    obtain ⟨g, o, e, hg, hc⟩ := h.rd hn
    refine ⟨g, o, e, hg, fun j v hv => ?_⟩
    rw [← hc j v hv]
    exact World.cell?_of_block (a := ⟨g, o + j, none⟩) (k.block g (by omega) (ho hn _ e)), h.nil_⟩
theorem kept_step {l : List (Nat × List Nat)} {j : Nat} {x : Nat × List Nat} (h : l[j]? = some x) (k : List Bool) : kept (l.take (j + 1)) k = if k[j]? = some true then kept (l.take j) k ++ [x] else kept (l.take j) k := by
  have hj : j < l.length := (List.getElem?_eq_some_iff.1 h).1
  rw [take_snoc h, kept_snoc, List.length_take, Nat.min_eq_left (by omega)]

set_option maxRecDepth 100000 in
set_option maxHeartbeats 3200000 in
theorem crash_of {w : World} {d g : Nat} {pv : Value} {m : DM} (h : PD w d g pv m) (kA : Option Addr) (kn kc : Nat) (kl : List Bool) (hkeep : Vs w w.heap.size kA kn kc (kl.map .bool)) (hoff : 0 < kn → Off (Fdg d g) kA) :
    Calls Try.prog 15 #[.pointer (some ⟨d, 0, none⟩), .slice kA kn kc] w fun e w' => ∃ pv', e = .returned (.int .i64 (m.crash kl).1) ∧ PD w' d g pv' (m.crash kl).2 ∧ (pv' = pv ∨ pv' = .slice none 0 0) ∧ Mod (Fdg d g) w w' := by
  have H := Lib.hid h
  have HP : Hid (m.crash kl = if m.down = true then (5, m) else (0, { m.comes (kept m.waits kl) with waits := [], down := true })) := Lib.hid rfl
  have HO := Lib.hid (DM.crash_ok h.ok kl)
  have HKP := Lib.hid hkeep
  have HOFF := Lib.hid hoff
  have hkm : kn ≤ 9223372036854775807 := Nat.le_trans hkeep.cap hkeep.most
  obtain ⟨⟨c0, c1, c2, c3, c4⟩, f0, f1, f2, f3, f4⟩ := h.cells
  clear hkeep hoff f0 f1 f2 f3 f4 c2 c3
  by_cases hd : m.down = true
  · have HP1 : Hid (m.crash kl = (5, m)) := Lib.hid (by rw [HP.out, if_pos hd])
    rw [stOf_down.2 hd] at c1
    clear hd HP h
    go_enter Try.func15, Try.ntmps15
    go_wp2_with fail
    refine (made_yes d _ c0).mono ?_
    rintro e w1 ⟨rfl, rfl⟩
    go_wp2_with fail
    go_ret
    exact ⟨pv, by rw [HP1.out]; rfl, by rw [HP1.out]; exact H.out, .inl rfl, Mod.refl _ _⟩
  · have HP1 : Hid (m.crash kl = (0, { m.comes (kept m.waits kl) with waits := [], down := true })) := Lib.hid (by rw [HP.out, if_neg hd])
    have hst : (stOf m == 2) = false := by
      have : ¬ stOf m = 2 := fun e => hd (stOf_down.1 e)
      simpa using this
    obtain ⟨A, c, hpv, hcap, hmost⟩ := h.pv_form
    obtain ⟨k, hk⟩ : ∃ k, m.waits.length = k := ⟨_, rfl⟩
    have HK := Lib.hid hk
    rw [hk] at hpv hcap
    subst hpv
    clear hd HP h hk
    generalize hs : stOf m = st at *
    clear hs
    go_enter Try.func15, Try.ntmps15
    go_wp2_with fail
    refine (made_yes d _ c0).mono ?_
    rintro e w1 ⟨rfl, rfl⟩
    go_wp2_with fail
    clear c0 c1 c4
    go_loopw [22] (fun i wr => ∃ j : Nat, j ≤ k ∧ i = .int .i64 j ∧ PD wr d g (.slice A k c) (m.comes (kept (m.waits.take j) kl)) ∧ Mod (Fdg d g) w wr) (fun i _ => k - (intOf i).toNat)
    case atStart => exact ⟨0, Nat.zero_le _, rfl, by rw [show kept (m.waits.take 0) kl = [] by simp [kept]]; exact H.out, Mod.refl _ _⟩
    case round =>
      obtain ⟨j, hj, rfl, hpd, hmod⟩ := hrel
      have HPD := Lib.hid hpd
      have HMD := Lib.hid hmod
      clear hpd hmod
      by_cases hlt : j < k
      · obtain ⟨x, hx⟩ : ∃ x, m.waits[j]? = some x := ⟨_, List.getElem?_eq_getElem (by rw [HK.out]; exact hlt)⟩
        have hcw := DM.comes_waits (kept (m.waits.take j) kl) m
        have hx2 : (m.comes (kept (m.waits.take j) kl)).waits[j]? = some x := by rw [hcw.1]; exact hx
        obtain ⟨b, c', hpv, hrange⟩ := HPD.out.pen_at hx2
        injection hpv with hA hB hC
        subst hA
        clear hB hC
        have hxm := HPD.out.ok.waits x (List.mem_of_getElem? hx2)
        have HX := Lib.hid hx
        have HXM := Lib.hid hxm
        have HRG := Lib.hid hrange
        have HL65 : Hid ((wriC x).length = 65) := Lib.hid (wriC_len hxm.2.1)
        have hzv := zv_wri
        have HRN : Hid ((wr.alloc (.cells (wriC x).toArray 72)).rangeAt wr.heap.size 0 (wriC x)) := Lib.hid (range_new wr _ (wriC x) [] (wriC x) [] (by simp) 0 rfl)
        have hE := (Ext.refl wr).alloc (.cells (wriC x).toArray 72)
        have HEX := Lib.hid hE
        have HKS := Lib.hid (kept_step hx kl)
        clear hcw hx hx2 hrange hxm hE
        have HVS : Hid (Vs (wr.alloc (.cells (wriC x).toArray 72)) w.heap.size kA kn kc (kl.map .bool)) := Lib.hid ((HKP.out.mod HMD.out (Nat.le_refl _) HOFF.out).mod (F := fun _ => False) (Mod.of_ext HEX.out) HMD.out.size fun _ _ _ h => h)
        by_cases hkj : j < kn
        · obtain ⟨kg, ko, rfl, _, hc⟩ := HVS.out.rd (by omega)
          obtain ⟨bb, hbb⟩ : ∃ bb, kl[j]? = some bb := ⟨_, List.getElem?_eq_getElem (by have := HVS.out.len; rw [List.length_map] at this; omega)⟩
          have hcell := hc j (.bool bb) (by rw [List.getElem?_map, hbb]; rfl)
          have HBB := Lib.hid hbb
          clear hc hbb
          cases bb with
          | true =>
            have HKS1 : Hid (kept (m.waits.take (j + 1)) kl = kept (m.waits.take j) kl ++ [x]) := Lib.hid (by rw [HKS.out, if_pos HBB.out])
            clear HKS
            go_wp2_with (first
              | (refine wl_wri rfl _ rfl b (j * 65) rfl (wriC x) HRG.out HL65.out ?_)
              | (refine ws_wri rfl _ _ rfl (wriC x) rfl rfl HL65.out (wriC_one x) ?_)
              | (refine wl_wri rfl _ rfl wr.heap.size 0 rfl (wriC x) HRN.out HL65.out ?_))
            refine (carry_of (HPD.out.ext HEX.out) x HXM.out.1 HXM.out.2).mono ?_
            rintro e w3 ⟨⟨v, rfl⟩, hp3, hm3⟩
            have HP3 := Lib.hid hp3
            have HM3 := Lib.hid ((HMD.out.ext HEX.out).then (Fdg.of_g hm3))
            clear hp3 hm3 hcell
            go_wp2_with fail
            go_roundw
            case rel => exact ⟨j + 1, by omega, by go_num, by rw [HKS1.out, comes_snoc]; exact HP3.out, HM3.out⟩
            case measure => simp [intOf]; omega
          | false =>
            have HKS1 : Hid (kept (m.waits.take (j + 1)) kl = kept (m.waits.take j) kl) := Lib.hid (by rw [HKS.out, if_neg (by rw [HBB.out]; simp)])
            clear HKS
            go_wp2_with (first
              | (refine wl_wri rfl _ rfl b (j * 65) rfl (wriC x) HRG.out HL65.out ?_)
              | (refine ws_wri rfl _ _ rfl (wriC x) rfl rfl HL65.out (wriC_one x) ?_))
            go_roundw
            case rel => exact ⟨j + 1, by omega, by go_num, by rw [HKS1.out]; exact HPD.out.ext HEX.out, HMD.out.ext HEX.out⟩
            case measure => simp [intOf]; omega
        · have HKS1 : Hid (kept (m.waits.take (j + 1)) kl = kept (m.waits.take j) kl) := Lib.hid (by
            rw [HKS.out, if_neg]
            rw [List.getElem?_eq_none (by have := HVS.out.len; rw [List.length_map] at this; omega)]
            simp)
          clear HKS
          go_wp2_with (first
            | (refine wl_wri rfl _ rfl b (j * 65) rfl (wriC x) HRG.out HL65.out ?_)
            | (refine ws_wri rfl _ _ rfl (wriC x) rfl rfl HL65.out (wriC_one x) ?_))
          go_roundw
          case rel => exact ⟨j + 1, by omega, by go_num, by rw [HKS1.out]; exact HPD.out.ext HEX.out, HMD.out.ext HEX.out⟩
          case measure => simp [intOf]; omega
      · have HTK : Hid (m.waits.take j = m.waits) := Lib.hid (List.take_of_length_le (by rw [HK.out]; omega))
        obtain ⟨⟨c0, c1, c2, c3, c4⟩, f0, f1, f2, f3, f4⟩ := HPD.out.cells
        clear c0 c2 c3 f0 f2 f3
        go_wp2_with fail
        go_ret
        have hpd := HPD.out
        rw [HTK.out] at hpd
        have hm4 : Mod (fun i => i = d) wr ((wr.setCell ⟨d, 4, none⟩ (.slice none 0 0)).setCell ⟨d, 1, none⟩ (.int .u8 2)) := ((Mod.refl _ _).own_cell _ _).own_cell _ _
        refine ⟨.slice none 0 0, by rw [HP1.out]; rfl, ?_, .inr rfl, HMD.out.then (Fdg.of_d hm4)⟩
        refine hpd.cleared hm4 _ ?_ HO.out (by rw [HP1.out]) (by rw [HP1.out]) (by rw [HP1.out]) (by rw [HP1.out]) (by rw [HP1.out])
        rw [HP1.out]
        exact row_set 1 (row_set 4 hpd.head _ rfl) _ rfl
end Go.Proofs.Ytldgamgdbneneaa
