/-
  The contracts of the disk's Flush and Crash.
-/
import Derived.Test.YtmbmpabjclkhlaaGreatDoorQ00
import Derived.Test.YtmbmpabjclkhlaaGreatDoorQ02
import Derived.Deep.RegionHeld3
import Derived.RangeFuncNested
import Derived.RangeFuncBound
import Derived.RangeFuncCalls
import Derived.RangeFuncLeaves
import Derived.Shelf.Abstract
import Derived.Shelf.RegionOpen
import Derived.WalkKit
import Derived.OwnWalkIn
import Derived.TacticsInMore
import Derived.LoopNIn
import Derived.LoopIn
namespace Go.Proofs.YtmbmpabjclkhlaaGreatDoor
set_option maxRecDepth 100000
section
open Go Go.RowKit
theorem PD.pen_at {w : World} {d g : Nat} {pv : Value} {m : DM} (h : PD w d g pv m) {j : Nat} {x : Nat × List Nat} (hx : m.waits[j]? = some x) :
    ∃ b c, pv = .slice (some ⟨b, 0, none⟩) m.waits.length c ∧ w.rangeAt b (j * 65) (wriC x) := by
  have hj : j < m.waits.length := (List.getElem?_eq_some_iff.1 hx).1
  rcases h.pen.2 with ⟨_, h0⟩ | ⟨b, cap, cur, rfl, _, hg, h1, h2, h3, h4⟩
  · omega
  · refine ⟨b, cap, rfl, fun i v hv => ?_⟩
    rw [cell_of_row w b _ cur _ _ hg]
    have hp := penC_get (fun y hy => (h.ok.waits y hy).2.1) hx i v hv
    rw [← h4] at hp
    rw [List.getElem?_take] at hp
    split at hp
    · simpa using hp
    · cases hp
theorem PD.cleared {w w' : World} {d g : Nat} {pv : Value} {m : DM} (h : PD w d g pv m) (k : Mod (fun i => i = d) w w') (m' : DM)
    (hh : HeadAt w' d (.pointer (some ⟨d, 0, none⟩)) (stOf m') m'.power (.slice (some ⟨g, 0, none⟩) m.size m.size) (.slice none 0 0))
    (hok : m'.Ok) (h1 : m'.rest = m.rest) (h2 : m'.meant = m.meant) (h3 : m'.lost = m.lost) (h4 : m'.waits = []) (hp : m'.power = m.power) : PD w' d g (.slice none 0 0) m' := by
  have hz : m'.size = m.size := by unfold DM.size; rw [h1]
  refine ⟨hok, by rw [hz]; exact h.n1, by rw [hp]; exact h.top, by rw [hz]; exact hh, ?_, ?_, h.dg, fun k hk => (by cases hk)⟩
  · obtain ⟨cur, c1, c2, c3⟩ := h.med.mod k (fun e => h.dg e.symm)
    exact ⟨cur, c1, by rw [hz]; exact c2, fun s hs j v hv => c3 s (by rw [← hz]; exact hs) j v (by unfold DM.sec at hv ⊢; rw [h1, h2, h3] at hv; exact hv)⟩
  · rw [h4]
    exact World.ownsRow_nil _ _ _ _
theorem comes_snoc (m : DM) (l : List (Nat × List Nat)) (x : Nat × List Nat) : m.comes (l ++ [x]) = (m.comes l).come x := by simp [DM.comes]
theorem take_snoc {l : List (Nat × List Nat)} {j : Nat} {x : Nat × List Nat} (h : l[j]? = some x) : l.take (j + 1) = l.take j ++ [x] := by
  rw [List.take_add_one, h]; rfl
def Fdg (d g : Nat) (i : Nat) : Prop := i = d ∨ i = g
theorem Fdg.of_d {d g : Nat} {w w' : World} (h : Mod (fun i => i = d) w w') : Mod (Fdg d g) w w' := h.mono fun _ hi => .inl hi
theorem Fdg.of_g {d g : Nat} {w w' : World} (h : Mod (fun i => i = g) w w') : Mod (Fdg d g) w w' := h.mono fun _ hi => .inr hi
theorem Mod.then {F : Nat → Prop} {a b c : World} (h : Mod F a b) (k : Mod F b c) : Mod F a c := h.trans k fun _ hi => .inl hi
set_option maxHeartbeats 3200000 in
theorem flush_of {w : World} {d g : Nat} {pv : Value} {m : DM} (h : PD w d g pv m) :
    Calls Tryz.prog 152 #[.pointer (some ⟨d, 0, none⟩)] w fun e w' => ∃ pv', e = .returned (.int .i64 m.flush.1) ∧ PD w' d g pv' m.flush.2 ∧ (pv' = pv ∨ pv' = .slice none 0 0) ∧ Mod (Fdg d g) w w' := by
  have hr := running_of h none 0 0 [] (ZsAt.nil_ w)
  have HR := Lib.hid hr
  have H := Lib.hid h
  have HE : Hid (runE m [] = if m.up = false then 5 else 0) := Lib.hid (by
    unfold runE knownE
    simp)
  have HP : Hid (m.flush = if m.up = false then (5, m) else if m.power = 0 then (5, { m with dead := true }) else (0, { ({ m with power := lessP m.power } : DM).comes m.waits with waits := [] })) := Lib.hid rfl
  have HO := Lib.hid (DM.flush_ok h.ok)
  clear h hr
  by_cases hu : m.up = false
  · have HE1 : Hid (runE m [] = 5) := Lib.hid (by rw [HE.out, if_pos hu])
    have HP1 : Hid (m.flush = (5, m)) := Lib.hid (by rw [HP.out, if_pos hu])
    clear hu HE HP
    go_enter Tryz.func152, Tryz.ntmps152
    go_wp2_with fail
    refine HR.out.mono ?_
    rw [HE1.out]
    rintro e w1 ⟨rfl, rfl⟩
    go_wp2_with fail
    go_ret
    exact ⟨pv, by rw [HP1.out]; rfl, by rw [HP1.out]; exact H.out, .inl rfl, Mod.refl _ _⟩
  · have HE1 : Hid (runE m [] = 0) := Lib.hid (by rw [HE.out, if_neg hu])
    have hup : m.up = true := by simpa using hu
    have hdr := draw_of H.out.headAt H.out.ok.power H.out.top
    have HD := Lib.hid hdr
    by_cases hp0 : m.power = 0
    · have HP1 : Hid (m.flush = (5, { m with dead := true })) := Lib.hid (by rw [HP.out, if_neg hu, if_pos hp0])
      have HS : Hid (drawE m.power = 5 ∧ drawS m.power (stOf m) = stOf { m with dead := true } ∧ lessP m.power = 0) := Lib.hid ⟨by rw [hp0]; rfl, by
        rw [hp0]
        show (1 : Int) = stOf { m with dead := true }
        unfold stOf
        have hd : m.down = false := by
          unfold DM.up at hup
          cases hm : m.down <;> simp_all
        simp [hd], by rw [hp0]; rfl⟩
      have HP0 := Lib.hid hp0
      clear hu hup hdr hp0 HE HP
      go_enter Tryz.func152, Tryz.ntmps152
      go_wp2_with fail
      refine HR.out.mono ?_
      rw [HE1.out]
      rintro e w1 ⟨rfl, rfl⟩
      go_wp2_with fail
      refine HD.out.mono ?_
      rw [HS.out.1, HS.out.2.1, HS.out.2.2]
      rintro e w1 ⟨rfl, hh, hm⟩
      have HM := Lib.hid hm
      have HH := Lib.hid hh
      clear hh hm
      go_wp2_with fail
      go_ret
      refine ⟨pv, by rw [HP1.out]; rfl, ?_, .inl rfl, Fdg.of_d HM.out⟩
      exact H.out.head_turned HM.out (stOf { m with dead := true }) 0 HH.out _ HO.out (by rw [HP1.out]) (by rw [HP1.out]) (by rw [HP1.out]) (by rw [HP1.out]) (by rw [HP1.out]) (by rw [HP1.out]; exact HP0.out) (by omega)
    · have HP1 : Hid (m.flush = (0, { ({ m with power := lessP m.power } : DM).comes m.waits with waits := [] })) := Lib.hid (by rw [HP.out, if_neg hu, if_neg hp0])
      have HS : Hid (drawE m.power = 0 ∧ drawS m.power (stOf m) = stOf m) := Lib.hid ⟨if_neg hp0, if_neg hp0⟩
      clear hu hup hdr hp0 HE HP
      go_enter Tryz.func152, Tryz.ntmps152
      go_wp2_with fail
      refine HR.out.mono ?_
      rw [HE1.out]
      rintro e w1 ⟨rfl, rfl⟩
      go_wp2_with fail
      refine HD.out.mono ?_
      rw [HS.out.1, HS.out.2]
      rintro e w1 ⟨rfl, hh, hm⟩
      have hpd : PD w1 d g pv { m with power := lessP m.power } := H.out.head_turned hm (stOf m) (lessP m.power) hh { m with power := lessP m.power } ⟨H.out.ok.meant, H.out.ok.lost, H.out.ok.rests, H.out.ok.means, H.out.ok.waits, lessP_le H.out.ok.power⟩ rfl rfl rfl rfl rfl rfl (by
        have := H.out.top
        unfold lessP
        split <;> omega)
      have HPW : Hid (({ m with power := lessP m.power } : DM).waits = m.waits) := Lib.hid rfl
      generalize ({ m with power := lessP m.power } : DM) = m1 at *
      have HM := Lib.hid (Fdg.of_d (g := g) hm)
      have H1 := Lib.hid hpd
      obtain ⟨⟨c0, c1, c2, c3, c4⟩, _⟩ := hpd.cells
      obtain ⟨A, c, hpv, hcap, hmost⟩ := hpd.pv_form
      rw [HPW.out] at hpv hcap
      obtain ⟨k, hk⟩ : ∃ k, m.waits.length = k := ⟨_, rfl⟩
      have HK := Lib.hid hk
      rw [hk] at hpv hcap
      subst hpv
      clear hh hm hpd hk c0 c1 c2 c3
      go_wp2_with fail
      go_loopw [22] (fun i wr => ∃ j : Nat, j ≤ k ∧ i = .int .i64 j ∧ PD wr d g (.slice A k c) (m1.comes (m.waits.take j)) ∧ Mod (Fdg d g) w wr) (fun i _ => k - (intOf i).toNat)
      case atStart => exact ⟨0, Nat.zero_le _, rfl, H1.out, HM.out⟩
      case round =>
        obtain ⟨j, hj, rfl, hpd, hmod⟩ := hrel
        have HPD := Lib.hid hpd
        have HMD := Lib.hid hmod
        clear hpd hmod c4
        by_cases hlt : j < k
        · obtain ⟨x, hx⟩ : ∃ x, m.waits[j]? = some x := ⟨_, List.getElem?_eq_getElem (by rw [HK.out]; exact hlt)⟩
          have hcw := DM.comes_waits (m.waits.take j) m1
          have hx2 : (m1.comes (m.waits.take j)).waits[j]? = some x := by rw [hcw.1, HPW.out]; exact hx
          obtain ⟨b, c', hpv, hrange⟩ := HPD.out.pen_at hx2
          injection hpv with hA hB hC
          subst hA
          clear hB hC
          have hxm := HPD.out.ok.waits x (List.mem_of_getElem? hx2)
          have HX := Lib.hid hx
          have HXM := Lib.hid hxm
          have HRG := Lib.hid hrange
          have HL65 : Hid ((wriC x).length = 65) := Lib.hid (wriC_len hxm.2.1)
          have hzv := zv_wri
          have HRN : Hid ((wr.alloc (.cells (wriC x).toArray 177)).rangeAt wr.heap.size 0 (wriC x)) := Lib.hid (range_new wr _ (wriC x) [] (wriC x) [] (by simp) 0 rfl)
          clear hcw hx hx2 hrange hxm
          go_wp2_with (first
            | (refine wl_wri rfl _ rfl b (j * 65) rfl (wriC x) HRG.out HL65.out ?_)
            | (refine ws_wri rfl _ _ rfl (wriC x) rfl rfl HL65.out (wriC_one x) ?_)
            | (refine wl_wri rfl _ rfl wr.heap.size 0 rfl (wriC x) HRN.out HL65.out ?_))
          have hE := (Ext.refl wr).alloc (.cells (wriC x).toArray 177)
          refine (carry_of (HPD.out.ext hE) x HXM.out.1 HXM.out.2).mono ?_
          rintro e w3 ⟨⟨v, rfl⟩, hp3, hm3⟩
          have HP3 := Lib.hid hp3
          have HM3 := Lib.hid ((HMD.out.ext hE).then (Fdg.of_g hm3))
          clear hp3 hm3 hE
          go_wp2_with fail
          go_roundw
          case rel => exact ⟨j + 1, by omega, by go_num, by rw [take_snoc HX.out, comes_snoc]; exact HP3.out, HM3.out⟩
          case measure => simp [intOf]; omega
        · have HTK : Hid (m.waits.take j = m.waits) := Lib.hid (List.take_of_length_le (by rw [HK.out]; omega))
          obtain ⟨⟨c0, c1, c2, c3, c4⟩, f0, f1, f2, f3, f4⟩ := HPD.out.cells
          clear c0 c1 c2 c3 f0 f1 f2 f3
          go_wp2_with fail
          go_ret
          have hpd := HPD.out
          rw [HTK.out] at hpd
          have hm4 : Mod (fun i => i = d) wr (wr.setCell ⟨d, 4, none⟩ (.slice none 0 0)) := (Mod.refl _ _).own_cell _ _
          refine ⟨.slice none 0 0, by rw [HP1.out]; rfl, ?_, .inr rfl, HMD.out.then (Fdg.of_d hm4)⟩
          refine hpd.cleared hm4 _ ?_ HO.out (by rw [HP1.out]) (by rw [HP1.out]) (by rw [HP1.out]) (by rw [HP1.out]) (by rw [HP1.out])
          rw [HP1.out]
          exact row_set 4 hpd.head _ rfl
end
section
open Go Go.RowKit
theorem agg_med (w : World) : (isAgg 219).run Tryz.prog w = .ok true w := by
  unfold isAgg
  rw [Sem.run_bind, run_underlying Tryz.underlying219 w]
  rfl
theorem agg_wri (w : World) : (isAgg 177).run Tryz.prog w = .ok true w := by
  unfold isAgg
  rw [Sem.run_bind, run_underlying Tryz.underlying177 w]
  rfl
theorem size_med : ∃ N, N = 129 ∧ ∀ w, (sizeOf 219).run Tryz.prog w = .ok N w := ⟨129, rfl, fun w => by
  have h := sz_med
  cases hq : Tryz.prog.info? 219 with
  | none => simp [hq] at h
  | some i => simp [hq] at h; simp [sizeOf, typeInfo, hq, h]⟩
theorem size_wri : ∃ N, N = 65 ∧ ∀ w, (sizeOf 177).run Tryz.prog w = .ok N w := ⟨65, rfl, fun w => by
  have h := sz_wri
  cases hq : Tryz.prog.info? 177 with
  | none => simp [hq] at h
  | some i => simp [hq] at h; simp [sizeOf, typeInfo, hq, h]⟩
theorem lcf (w : World) (g o N : Nat) (cs : List Value) (hl : cs.length = N) (h : w.rangeAt g o cs) : (loadCellsFrom ⟨g, o, none⟩ 0 N #[]).run Tryz.prog w = .ok cs.toArray w := by
  subst hl
  exact run_loadCells_list (P := Tryz.prog) w ⟨g, o, none⟩ cs (fun j v hv => by rw [Addr.add_mid]; exact h j v hv)
theorem scs (w : World) (t : TypeId) (c : Array Value) (cs : List Value) (hl : c.size = cs.length) (h1 : ∀ v ∈ cs, v.oneCell' = true) : (storeCells ⟨w.heap.size, 0, none⟩ cs 0).run Tryz.prog (w.alloc (.cells c t)) = .ok () (w.alloc (.cells cs.toArray t)) := by
  have h := run_storeCells_cells (P := Tryz.prog) w.heap.size 0 cs 0 (w.alloc (.cells c t)) (fun j hj => by
    rw [World.cell?_alloc_new, Array.getElem?_eq_getElem (by omega)]; rfl) (fun j hj => World.frozen?_alloc_new _ _ _ _) h1
  rw [h]
  congr 1
  have e : ((w.alloc (.cells c t)).setCells w.heap.size (0 + 0) cs) = w.alloc (.cells cs.toArray t) := by
    have key : ∀ (vs : List Value) (o : Nat) (c : Array Value), (w.alloc (.cells c t)).setCells w.heap.size o vs = w.alloc (.cells (vs.zipIdx o |>.foldl (fun a (p : Value × Nat) => a.setIfInBounds p.2 p.1) c) t) := by
      intro vs
      induction vs with
      | nil => intro o c; rfl
      | cons v r ih =>
        intro o c
        rw [World.setCells, World.setCell_alloc_new, ih]
        rfl
    rw [key]
    have := fold_put cs [] c.toList [] (by rw [Array.length_toList]; exact hl)
    simp only [List.length_nil, List.nil_append, List.append_nil] at this
    rw [show (0 + 0) = 0 from rfl]
    congr 2
  exact e
end
section
open Go Go.RowKit Go.Shelf
attribute [local go_sem] Oper.semAt_some
abbrev W65 := { x : Nat × List Nat // Sect x.2 }
abbrev WI := Int × W65
def encW (x : WI) : Array Value := #[.int .i64 x.1, .agg (wriC x.2.1).toArray]
def lastK (ws : List W65) (k : Nat) : List W65 := ws.reverse.take k
theorem lastK_succ {ws : List W65} {q : Nat} {x : W65} (hx : ws[q]? = some x) : lastK ws (ws.length - q) = lastK ws (ws.length - (q + 1)) ++ [x] := by
  have hq : q < ws.length := (List.getElem?_eq_some_iff.1 hx).1
  unfold lastK
  rw [show ws.length - q = (ws.length - (q + 1)) + 1 by omega, List.take_add_one]
  congr 1
  rw [List.getElem?_reverse (by omega), show ws.length - 1 - (ws.length - (q + 1)) = q by omega, hx]
  rfl
set_option maxHeartbeats 4000000 in
theorem back1_in (F : Fence) (n : Nat) (h56 : F.fn 277) (hro : F.round = none) (hn : 1 ≤ n) (l Bs n₀ b cap : Nat) (ws : List W65) (hlen : ws.length ≤ 9000000000000000000) (hb : b < n₀) (hB : Bs < n₀) (J Jx : List WI → World → Prop)
    (hY : ∀ pre x W, J pre W → pre.length < ws.length → YieldAt F (n - 1) Tryz.prog l (encW x) W fun e W' =>
      (e = .returned (.bool true) ∧ J (pre ++ [x]) W' ∧ Below n₀ W W') ∨ (e = .returned (.bool false) ∧ Jx (pre ++ [x]) W'))
    (W : World) (hBs : W.cell? ⟨Bs, 0, none⟩ = some (.slice (some ⟨b, 0, none⟩) ws.length cap)) (hc : ∀ j x, ws[j]? = some x → W.rangeAt b (j * 65) (wriC x.1)) (h0 : J [] W) :
    CallsIn F n Tryz.prog 277 #[.func (.yield l) #[] #[], .pointer (some ⟨Bs, 0, none⟩)] W fun e W' => (∃ v, e = .returned v) ∧
      ((∃ ys : List WI, ys.map (fun p => p.2) = ws.reverse ∧ J ys W') ∨ (∃ pre : List WI, (∃ k, pre.map (fun p => p.2) = lastK ws k) ∧ Jx pre W')) := by
  obtain ⟨N, hN, hsz⟩ := size_wri
  have hag := agg_wri
  have HN := Lib.hid hN
  obtain ⟨L, hL⟩ : ∃ L, ws.length = L := ⟨_, rfl⟩
  have HL := Lib.hid hL
  have HC := Lib.hid hc
  rw [hL] at hBs hlen
  clear hN hL hc
  refine callsIn_of_wp Tryz.func277 rfl h56 ?_ hro
  simp only [Tryz.ntmps277, List.size_toArray, List.length_cons, List.length_nil, Nat.reduceAdd, Nat.reduceSub, Array.replicate_succ, Array.replicate_zero, List.push_toArray, List.append_toArray, List.nil_append, List.cons_append]
  gi_wp2
  gi_loopw [3] (fun i wr => ∃ (q : Nat) (pre : List WI), q ≤ L ∧ i = .int .i64 ((q : Int) - 1) ∧ pre.map (fun p => p.2) = lastK ws (L - q) ∧ J pre wr ∧ Below n₀ W wr) (fun i _ => (intOf i + 1).toNat)
  case atStart => exact ⟨L, [], Nat.le_refl _, by go_num, by simp [lastK], h0, Below.refl _ _⟩
  case round =>
    obtain ⟨q, pre, hq, rfl, hpre, hJs, hnx⟩ := hrel
    have HP := Lib.hid hpre
    have HNX := Lib.hid hnx
    have hbs := (hnx.cell (p := ⟨Bs, 0, none⟩) hB).trans hBs
    have hlp : pre.length = L - q := by
      have h1 := congrArg List.length hpre
      rw [List.length_map] at h1
      rw [h1, lastK, List.length_take, List.length_reverse, HL.out]
      omega
    clear hpre hnx
    cases q with
    | zero =>
      have HF : Hid (pre.map (fun p => p.2) = ws.reverse) := Lib.hid (by
        rw [HP.out, lastK, List.take_of_length_le (by rw [List.length_reverse, HL.out]; omega)])
      simp only [Int.natCast_zero, Int.zero_sub] at *
      gi_wp2
      go_end0
      exact ⟨⟨_, rfl⟩, .inl ⟨pre, HF.out, hJs⟩⟩
    | succ q =>
      rw [show ((q + 1 : Nat) : Int) - 1 = (q : Int) by omega]
      obtain ⟨x, hx⟩ : ∃ x, ws[q]? = some x := ⟨_, List.getElem?_eq_getElem (by rw [HL.out]; omega)⟩
      have hr : wr.rangeAt b (q * N) (wriC x.1) := by
        rw [HN.out]
        intro j v hv
        exact (HNX.out.cell (p := ⟨b, q * 65 + j, none⟩) hb).trans (HC.out q x hx j v hv)
      have hl65 : (wriC x.1).length = N := by rw [HN.out]; exact wriC_len x.2.1
      have hld : (loadCellsFrom ⟨b, q * N, none⟩ 0 N #[]).run Tryz.prog wr = .ok (wriC x.1).toArray wr := lcf wr b _ N _ hl65 hr
      obtain ⟨fn, tmps, assign, body, hy, hR⟩ := hY pre ((q : Int), x) wr hJs (by rw [hlp, HL.out]; omega)
      have HX := Lib.hid hx
      have hq0 : (0 : Int) ≤ (q : Int) := by omega
      have hqL : (q : Int) < (L : Int) := by omega
      dsimp only [encW] at hy
      clear hr hx hl65
      gi_wp2
      refine hR.mono ?_
      rintro e W3 (⟨rfl, hJ3, hk3⟩ | ⟨rfl, hJx3⟩)
      · gi_wp2
        go_roundw
        case rel => exact ⟨q, pre ++ [((q : Int), x)], by omega, by go_num, by
          rw [List.map_append, HP.out]
          have := lastK_succ HX.out
          rw [HL.out] at this
          rw [this]
          rfl, hJ3, HNX.out.trans hk3⟩
        case measure => simp [intOf]
      · gi_wp2
        refine bodyPost_ret (results_none rfl _ _ _) rfl ?_
        exact ⟨⟨_, rfl⟩, .inr ⟨pre ++ [((q : Int), x)], ⟨L - q, by
          rw [List.map_append, HP.out]
          have := lastK_succ HX.out
          rw [HL.out] at this
          rw [this]
          rfl⟩, hJx3⟩⟩
set_option maxHeartbeats 1000000 in
theorem back1_nil_in (F : Fence) (n : Nat) (h56 : F.fn 277) (hro : F.round = none) (l Bs : Nat) (J : List WI → World → Prop) (W : World) (hBs : W.cell? ⟨Bs, 0, none⟩ = some (.slice none 0 0)) (h0 : J [] W) :
    CallsIn F n Tryz.prog 277 #[.func (.yield l) #[] #[], .pointer (some ⟨Bs, 0, none⟩)] W fun e W' => (∃ v, e = .returned v) ∧ J [] W' := by
  refine callsIn_of_wp Tryz.func277 rfl h56 ?_ hro
  simp only [Tryz.ntmps277, List.size_toArray, List.length_cons, List.length_nil, Nat.reduceAdd, Nat.reduceSub, Array.replicate_succ, Array.replicate_zero, List.push_toArray, List.append_toArray, List.nil_append, List.cons_append]
  gi_wp2
  gi_loopw [3] (fun i wr => i = .int .i64 (-1) ∧ J [] wr) (fun _ _ => 0)
  case atStart => exact ⟨rfl, h0⟩
  case round =>
    obtain ⟨rfl, hJs⟩ := hrel
    gi_wp2
    go_end0
    exact ⟨⟨_, rfl⟩, hJs⟩
set_option maxHeartbeats 1000000 in
theorem back_in (a : Option Addr) (len cap : Nat) (w : World) :
    Calls Tryz.prog 249 #[.slice a len cap] w fun e w' => e = .returned (.func (.func 277) #[] #[.pointer (some ⟨w.heap.size, 0, none⟩)]) ∧ w' = w.alloc (.cells #[.slice a len cap] 137) := by
  go_enter Tryz.func249, Tryz.ntmps249
  go_wp2
  go_ret
  exact ⟨rfl, rfl⟩
def wsOfW (l : List (Nat × List Nat)) (h : ∀ x ∈ l, Sect x.2) : List W65 := l.attach.map fun y => ⟨y.1, h y.1 y.2⟩
theorem wsOfW_map (l : List (Nat × List Nat)) (h : ∀ x ∈ l, Sect x.2) : (wsOfW l h).map (fun y => y.1) = l := by
  unfold wsOfW
  rw [List.map_map]
  exact List.attach_map_subtype_val l
theorem wsOfW_len (l : List (Nat × List Nat)) (h : ∀ x ∈ l, Sect x.2) : (wsOfW l h).length = l.length := by simp [wsOfW]
theorem back_stops (n : Nat) (hn : 1 ≤ n) {W : World} {d g : Nat} {pv : Value} {m : DM} (h : PD W d g pv m) (hfew : m.waits.length ≤ 9000000000000000000) (Bs : Nat) (hBs : W.cell? ⟨Bs, 0, none⟩ = some pv) :
    SeqStopsK Fence.wide n Tryz.prog 277 #[.pointer (some ⟨Bs, 0, none⟩)] encW (Below W.heap.size)
      (fun ys : List WI => ys.map (fun p => p.2.1) = m.waits.reverse) (fun pre : List WI => ∃ k, pre.map (fun p => p.2.1) = m.waits.reverse.take k) m.waits.length W := fun l J Jx V hV _ _ hY h0 => by
  have hBl : Bs < W.heap.size := World.block_lt_of_cell? W _ hBs
  have hBs' := (hV.cell (p := ⟨Bs, 0, none⟩) hBl).trans hBs
  have hws : ∀ x ∈ m.waits, Sect x.2 := fun x hx => (h.ok.waits x hx).2
  have hmp := wsOfW_map m.waits hws
  have hml := wsOfW_len m.waits hws
  have conv : ∀ ys : List WI, ys.map (fun p => p.2.1) = (ys.map (fun p => p.2)).map (fun y => y.1) := fun ys => by rw [List.map_map]; rfl
  rcases h.pen.2 with ⟨e, hz⟩ | ⟨b, cap, cur, e, _, hg, _⟩
  · rw [e] at hBs'
    have hm0 : m.waits = [] := List.eq_nil_of_length_eq_zero hz
    exact (back1_nil_in Fence.wide n trivial rfl l Bs J V hBs' h0).mono fun e W' ⟨he, hj⟩ => ⟨he, .inl ⟨[], by rw [hm0]; rfl, hj⟩⟩
  · rw [e, ← hml] at hBs'
    have hb : b < W.heap.size := (Array.getElem?_eq_some_iff.1 hg).1
    refine (back1_in Fence.wide n trivial rfl hn l Bs W.heap.size b cap (wsOfW m.waits hws) (by rw [hml]; exact hfew) hb hBl J Jx (fun pre x W' hj hlt => hY pre x W' hj (by rw [← hml]; exact hlt)) V hBs' (fun j x hx => ?_) h0).mono ?_
    · have hx2 : m.waits[j]? = some x.1 := by
        rw [← hmp, List.getElem?_map, hx]
        rfl
      obtain ⟨b', c', e2, hr⟩ := h.pen_at hx2
      rw [e] at e2
      injection e2 with e3 _ _
      injection e3 with e3
      injection e3 with e3
      subst e3
      intro i v hv
      exact (hV.cell (p := ⟨b, j * 65 + i, none⟩) hb).trans (hr i v hv)
    · rintro e W' ⟨he, ⟨ys, hys, hj⟩ | ⟨pre, ⟨k, hk⟩, hj⟩⟩
      · exact ⟨he, .inl ⟨ys, (conv ys).trans (by rw [hys, List.map_reverse, hmp]), hj⟩⟩
      · exact ⟨he, .inr ⟨pre, ⟨k, (conv pre).trans (by rw [hk, lastK, List.map_take, List.map_reverse, hmp])⟩, hj⟩⟩
end
end Go.Proofs.YtmbmpabjclkhlaaGreatDoor
