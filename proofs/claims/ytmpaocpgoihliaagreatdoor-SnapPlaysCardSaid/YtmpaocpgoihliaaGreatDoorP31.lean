/-
  The contract of snap's write.
-/
import Derived.Test.YtmpaocpgoihliaaGreatDoorP00
import Derived.Test.YtmpaocpgoihliaaGreatDoorP06
import Derived.Test.YtmpaocpgoihliaaGreatDoorP11
import Derived.Test.YtmpaocpgoihliaaGreatDoorP12
import Derived.Test.YtmpaocpgoihliaaGreatDoorP26
import Derived.Test.YtmpaocpgoihliaaGreatDoorP30
import Derived.Deep.RegionHeld3
import Derived.WalkMore
import Derived.Deep.DeepCutAuto
namespace Go.Proofs.YtmpaocpgoihliaaGreatDoor
set_option maxRecDepth 100000
section
open Go Go.RowKit
theorem lsOf_atY {L : List Lst} {k : Nat} {a : Lst} (h : L[k]? = some a) : (lsOf L)[k]? = some a.l := by
 unfold lsOf
 rw [List.getElem?_map, h]; rfl
theorem keepWr {V W : World} {g b d : Nat} {x0 x1 x2 : Value} (k : Hid (Ext V.drew W)) (h : Hid (V.cell? ⟨g, 1, none⟩ = some (.pointer (some ⟨d, 0, none⟩)) ∧ V.cell? ⟨b, 0, none⟩ = some x0 ∧ V.cell? ⟨b, 1, none⟩ = some x1 ∧ V.cell? ⟨b, 2, none⟩ = some x2)) :
 W.cell? ⟨g, 1, none⟩ = some (.pointer (some ⟨d, 0, none⟩)) ∧ W.cell? ⟨b, 0, none⟩ = some x0 ∧ W.cell? ⟨b, 1, none⟩ = some x1 ∧ W.cell? ⟨b, 2, none⟩ = some x2 :=
 have hx : Ext V W := (Below.drew (Ext.refl V)).trans k.out
 ⟨ext_of_cell hx h.out.1, ext_of_cell hx h.out.2.1, ext_of_cell hx h.out.2.2.1, ext_of_cell hx h.out.2.2.2⟩
theorem keepWrM {V W : World} {F : Nat → Prop} {g b d : Nat} {x0 x1 x2 : Value} (k : Hid (Mod F V W)) (hn : Hid (¬ F g ∧ ¬ F b)) (h : Hid (V.cell? ⟨g, 1, none⟩ = some (.pointer (some ⟨d, 0, none⟩)) ∧ V.cell? ⟨b, 0, none⟩ = some x0 ∧ V.cell? ⟨b, 1, none⟩ = some x1 ∧ V.cell? ⟨b, 2, none⟩ = some x2)) :
 W.cell? ⟨g, 1, none⟩ = some (.pointer (some ⟨d, 0, none⟩)) ∧ W.cell? ⟨b, 0, none⟩ = some x0 ∧ W.cell? ⟨b, 1, none⟩ = some x1 ∧ W.cell? ⟨b, 2, none⟩ = some x2 :=
 ⟨mod_cell k.out hn.out.1 h.out.1, mod_cell k.out hn.out.2 h.out.2.1, mod_cell k.out hn.out.2 h.out.2.2.1, mod_cell k.out hn.out.2 h.out.2.2.2⟩
set_option maxHeartbeats 800000 in
theorem ywrite_ofN {w : World} {g d : Nat} {r inc : Int} {s : ShM} {F : Nat → Prop} {m : DM} (h : ShAt w g d r inc s) (hd : PDisk w d F m) (hg : ¬ F g) (hLM : ∀ V, Mod F w V → LaidY V) (ix ar ct : Nat) (har : ar ≤ 1) (k0 : Nat)
 (A : Option Addr) (n c : Nat) (L : List Lst) (hls : Lsts w w.heap.size A n c L) (hA : Off F A) (hO : ∀ a ∈ L, 0 < a.n → Off F a.A) (hk : k0 + n ≤ 8) (hin : ∀ a ∈ L, a.l.length ≤ 140737488355000)
 (hse : ∀ j a, L[j]? = some a → sealE r 5 ((8 * ar + (k0 + j) : Nat) : Int) (ix : Int) inc (prZL (ct : Int) a.l).length 2 = 0) (hfew : m.waits.length ≤ 999000) :
 Calls Tryz.prog 76 #[.pointer (some ⟨g, 0, none⟩), .agg #[.int .i64 (ix : Int), .int .i64 (ar : Int), .int .i64 (ct : Int)], .int .i64 (k0 : Int), .slice A n c] w fun e w' =>
  e = .returned (.int .i64 (m.wrY r inc ⟨ix, ar, ct⟩ k0 (lsOf L)).1) ∧ ∃ F', WY w d F F' w' (m.wrY r inc ⟨ix, ar, ct⟩ k0 (lsOf L)).2 := by
 have hE := (Ext.refl w).alloc (.cells #[.int .i64 (ix : Int), .int .i64 (ar : Int), .int .i64 (ct : Int)] 137)
 have hz := heap_alloc_new w (.cells #[.int .i64 (ix : Int), .int .i64 (ar : Int), .int .i64 (ct : Int)] 137)
 have hbF : ¬ F w.heap.size := fun hf => by have := hd.lt _ hf; omega
 obtain ⟨wB, hwB⟩ : ∃ wB, w.alloc (.cells #[.int .i64 (ix : Int), .int .i64 (ar : Int), .int .i64 (ct : Int)] 137) = wB := ⟨_, rfl⟩
 rw [hwB] at hE hz
 have hlsB := hls.ext hE
 have hgB := (h.ext hE).lt
 have HE := Lib.hid hE
 have HZ := Lib.hid (And.intro hz (Array.getElem?_eq_some_iff.1 hz).1)
 have HSH := Lib.hid (h.ext hE)
 have HGB := Lib.hid hgB
 have HLS := Lib.hid hlsB
 have HW0 : Hid (WY wB d F F wB m) := Lib.hid (WY.start (hd.ext hE))
 have HLM : Hid (∀ V, Mod F wB V → LaidY V) := Lib.hid fun V hV => hLM V ((Mod.of_ext hE).trans hV fun _ hi => .inl hi)
 have HOFF := Lib.hid (And.intro hA hO)
 have HNF := Lib.hid (And.intro hg hbF)
 have HSE := Lib.hid hse
 have HIN := Lib.hid hin
 have HFW := Lib.hid hfew
 have hlen : (lsOf L).length = n := by unfold lsOf; rw [List.length_map]; exact hls.len
 have HLEN := Lib.hid hlen
 clear h hd hg hLM hls hA hO hin hse hfew hE hz hlsB hgB hbF hlen
 generalize hb0 : w.heap.size = b at *
 go_enter Tryz.func76, Tryz.ntmps76
 go_wp2_with fail
 go_step3
 go_wp2_with fail
 go_step3
 go_wp2_with fail
 have HWB : Hid (w.alloc (.cells #[.int .i64 (ix : Int), .int .i64 (ar : Int), .int .i64 (ct : Int)] 137) = wB) := Lib.hid hwB
 clear hwB
 go_loopw [9, 17] (fun v i wr => ∃ (j : Nat) (F' : Nat → Prop), j ≤ n ∧ v = .int .i64 0 ∧ i = .int .i64 (j : Int) ∧ Hid ((wrsY r inc ⟨ix, ar, ct⟩ (0, m) k0 ((lsOf L).take j)).1 = 0) ∧ Hid (WY wB d F F' wr (wrsY r inc ⟨ix, ar, ct⟩ (0, m) k0 ((lsOf L).take j)).2)) (fun _ i _ => n - (intOf i).toNat)
 case atStart => exact ⟨0, F, by omega, rfl, rfl, Lib.hid rfl, HW0⟩
 case round =>
  obtain ⟨j, F', hj, rfl, rfl, HX0, HW⟩ := hrel
  by_cases hlt : j < n
  ·obtain ⟨gl, ol, a, eA, ha, hby, hcell⟩ := Lsts.modY HLS.out HW.out.mod HOFF.out.1 HOFF.out.2 hlt
   have hse := HSE.out j a ha
   have hin := HIN.out a (List.mem_of_getElem? ha)
   have hx1 : wrsY r inc ⟨ix, ar, ct⟩ (0, m) k0 ((lsOf L).take (j + 1)) = wrsE (wrsY r inc ⟨ix, ar, ct⟩ (0, m) k0 ((lsOf L).take j)) (firstS 5 ((8 * ar + (k0 + j) : Nat) : Int)) (frmY r inc ⟨ix, ar, ct⟩ (k0 + j) a.l) 2 := by
    rw [List.take_add_one, lsOf_atY ha, Option.toList_some, wrsY_snoc, List.length_take, HLEN.out, Nat.min_eq_left (by omega)]
   have hwt := wrsY_waits (r := r) (inc := inc) (s := ⟨ix, ar, ct⟩) ((lsOf L).take j) (0, m) k0
   rw [List.length_take] at hwt
   have hstop : (wrsY r inc ⟨ix, ar, ct⟩ (0, m) k0 ((lsOf L).take (j + 1))).1 ≠ 0 → m.wrY r inc ⟨ix, ar, ct⟩ k0 (lsOf L) = wrsY r inc ⟨ix, ar, ct⟩ (0, m) k0 ((lsOf L).take (j + 1)) := fun he => by
    unfold DM.wrY
    rw [wrsY_stop he]
    exact if_neg he
   obtain ⟨p, hp⟩ : ∃ p : Nat, 8 * ar + (k0 + j) = p := ⟨_, rfl⟩
   have hp16 : p < 16 := by omega
   have hfs := first5 hp16
   have hsc := sC_lt hp16
   obtain ⟨S, hS⟩ : ∃ S : Nat, sC p = S := ⟨_, rfl⟩
   rw [hS] at hfs hsc
   have hfl : (frmY r inc ⟨ix, ar, ct⟩ (k0 + j) a.l).length = 128 := by
    have := (sealL_len hse).1
    unfold frmY
    exact this
   have hsl := yseal_of (HSH.out.mod HW.out.mod HNF.out.1) (HLM.out _ HW.out.mod) ix ar ct har (k0 + j) (by omega) a.A a.n a.c a.l hby (by rw [← hby.len]; exact hin)
   have hpl := yplace_of ix ar ct (k0 + j) har (by omega)
   rw [hp] at hx1 hse hpl hsl
   rw [hfs] at hx1
   have hsl2 : Calls Tryz.prog 166 #[.pointer (some ⟨g, 0, none⟩), .agg #[.int .i64 (ix : Int), .int .i64 (ar : Int), .int .i64 (ct : Int)], .int .i64 ((k0 : Int) + (j : Int)), .slice a.A a.n a.c] wr fun e w' => ∃ A' c', e = .returned (.slice A' (frmY r inc ⟨ix, ar, ct⟩ (k0 + j) a.l).length c') ∧ By w' A' (frmY r inc ⟨ix, ar, ct⟩ (k0 + j) a.l).length c' (frmY r inc ⟨ix, ar, ct⟩ (k0 + j) a.l) ∧ (∀ q, A' = some q → wr.heap.size ≤ q.block) ∧ Ext wr w' := by
    rw [← Int.natCast_add]
    exact hsl.mono fun e w' ⟨A', c', h1, h2, h3, h4⟩ => ⟨A', c', h1, h2, h3 hse, h4⟩
   clear hsl
   have hsl := hsl2
   clear hsl2
   rw [Int.natCast_add] at hpl
   obtain ⟨Lf, hLf⟩ : ∃ Lf, frmY r inc ⟨ix, ar, ct⟩ (k0 + j) a.l = Lf := ⟨_, rfl⟩
   rw [hLf] at hx1 hsl hfl
   rw [hfl] at hsl
   rw [hx1] at hstop
   generalize wrsY r inc ⟨ix, ar, ct⟩ (0, m) k0 ((lsOf L).take j) = X at *
   obtain ⟨X0, mj⟩ := X
   obtain rfl : X0 = 0 := HX0.out
   have HX1 := Lib.hid hx1
   have HST := Lib.hid hstop
   have HSL := Lib.hid hsl
   have HPL := Lib.hid hpl
   have HFS := Lib.hid hfs
   have HFL := Lib.hid hfl
   have hmj : mj.waits.length ≤ 999500 := by have := HFW.out; dsimp only at hwt; omega
   have HMJ := Lib.hid hmj
   have hrow := (HW.out.mod.block b HZ.out.2 HNF.out.2).trans HZ.out.1
   have c0 := cell_of_row wr b 0 _ _ _ hrow
   have c1 := cell_of_row wr b 1 _ _ _ hrow
   have c2 := cell_of_row wr b 2 _ _ _ hrow
   subst eA
   clear hx1 hstop hsl hpl hfs hfl hmj hwt hse hin hby ha hrow hS hp hLf HX0 HW0
   go_wp2_with fail
   refine HSL.out.mono ?_
   rintro e w2 ⟨Af, cf, rfl, hby, hfr, hx⟩
   obtain ⟨ga, oa, eAf, hga, _⟩ := hby.rd.2 (by rw [HFL.out]; omega)
   subst eAf
   have hga2 : wr.heap.size ≤ ga := hfr _ rfl
   have hnga : ¬ F' ga := fun hf => by have := HW.out.disk.lt _ hf; omega
   have HW2 := Lib.hid (HW.out.ext hx)
   have HFB := Lib.hid (And.intro hby (And.intro hnga hga))
   clear hby hfr hx hga hga2 hnga HSL c0 c1 c2 hcell
   go_wp2_with fail
   refine (wide_any 5 _ (HLM.out _ HW2.out.mod).f.a.t).mono ?_
   rw [show wid 5 = 2 from rfl]
   rintro e w3 ⟨rfl, hx⟩
   have HW3 := Lib.hid (HW2.out.ext hx)
   have HFB3 : Hid (By w3 (some ⟨ga, oa, none⟩) 128 cf Lf ∧ ¬ F' ga ∧ ga < w3.heap.size) := Lib.hid ⟨HFB.out.1.ext hx, HFB.out.2.1, Nat.lt_of_lt_of_le HFB.out.2.2 hx.size⟩
   clear hx HFB HW2 HW
   go_wp2_with fail
   go_loopw [9, 31] (fun v i wr => ∃ (q : Nat) (F'' : Nat → Prop), q ≤ 2 ∧ v = .int .i64 0 ∧ i = .int .i64 (q : Int) ∧ Hid ((wrsE (0, mj) (S : Int) Lf q).1 = 0) ∧ Hid (WY wB d F F'' wr (wrsE (0, mj) (S : Int) Lf q).2) ∧ Hid (By wr (some ⟨ga, oa, none⟩) 128 cf Lf ∧ ¬ F'' ga ∧ ga < wr.heap.size)) (fun _ i _ => 2 - (intOf i).toNat)
   case atStart => exact ⟨0, F', by omega, rfl, rfl, Lib.hid rfl, HW3, HFB3⟩
   case round =>
    obtain ⟨q, F'', hq, rfl, rfl, HY0, HW, HFB⟩ := hrel
    by_cases hlq : q < 2
    ·have hy1 : wrsE (0, mj) (S : Int) Lf (q + 1) = unE (wrsE (0, mj) (S : Int) Lf q) fun m => m.write ((S : Int) + (q : Int)) ((Lf.drop (64 * q)).take 64) := rfl
     have hyw := wrs_waits (m := mj) (E := 0) (S := (S : Int)) (L := Lf) q
     have hys : (wrsE (0, mj) (S : Int) Lf (q + 1)).1 ≠ 0 → wrsE (0, mj) (S : Int) Lf 2 = wrsE (0, mj) (S : Int) Lf (q + 1) := wrs_stop (by omega)
     rw [hy1] at hys
     generalize wrsE (0, mj) (S : Int) Lf q = Y at *
     obtain ⟨Y0, mq⟩ := Y
     obtain rfl : Y0 = 0 := HY0.out
     have hy2 : unE ((0 : Int), mq) (fun m => m.write ((S : Int) + (q : Int)) ((Lf.drop (64 * q)).take 64)) = mq.write ((S : Int) + (q : Int)) ((Lf.drop (64 * q)).take 64) := if_pos rfl
     rw [hy2] at hy1 hys
     have hpc := By.piece HFB.out.1 (64 * q) (by omega)
     have hmq : mq.waits.length ≤ 1000000 := by have := HMJ.out; dsimp only at hyw; omega
     have hrow := (HW.out.mod.block b HZ.out.2 HNF.out.2).trans HZ.out.1
     have hgr := (HSH.out.mod HW.out.mod HNF.out.1).cells.2.1
     have hS0 : wr.drew.cell? ⟨g, 1, none⟩ = some (.pointer (some ⟨d, 0, none⟩)) ∧ wr.drew.cell? ⟨b, 0, none⟩ = some (.int .i64 (ix : Int)) ∧ wr.drew.cell? ⟨b, 1, none⟩ = some (.int .i64 (ar : Int)) ∧ wr.drew.cell? ⟨b, 2, none⟩ = some (.int .i64 (ct : Int)) := ⟨hgr, cell_of_row wr b 0 _ _ _ hrow, cell_of_row wr b 1 _ _ _ hrow, cell_of_row wr b 2 _ _ _ hrow⟩
     have HC0 : Hid (wr.cell? ⟨g, 1, none⟩ = some (.pointer (some ⟨d, 0, none⟩)) ∧ wr.cell? ⟨b, 0, none⟩ = some (.int .i64 (ix : Int)) ∧ wr.cell? ⟨b, 1, none⟩ = some (.int .i64 (ar : Int)) ∧ wr.cell? ⟨b, 2, none⟩ = some (.int .i64 (ct : Int))) := Lib.hid hS0
     have HLW : Hid (∀ V, Hid (Ext wr.drew V) → LaidY V) := Lib.hid fun V hV => HLM.out V (HW.out.mod.ext ((Below.drew (Ext.refl wr)).trans hV.out))
     have HFI : Hid (∀ V, Hid (Ext wr.drew V) → Calls Tryz.prog 59 #[.int .i64 5, .int .i64 (p : Int)] V fun e w' => e = .returned (.int .i64 (S : Int)) ∧ Ext V w') := Lib.hid fun V hV => by rw [← HFS.out]; exact first_any 5 (p : Int) V (HLW.out V hV).f.a.t
     have HNG : Hid (¬ F'' g ∧ ¬ F'' b) := Lib.hid ⟨HW.out.not_ HGB.out HNF.out.1, HW.out.not_ HZ.out.2 HNF.out.2⟩
     have HYS := Lib.hid hys
     have HY1 := Lib.hid hy1
     have hcf := HFB.out.1.cap
     have hcm := HFB.out.1.most
     have h64 : (64 : Int) ≤ (cf : Int) := by omega
     have h128 : (128 : Int) ≤ (cf : Int) := by omega
     obtain ⟨lo, hlo⟩ : ∃ lo : Nat, 64 * q = lo := ⟨_, rfl⟩
     obtain ⟨hi2, hhi⟩ : ∃ hi2 : Nat, lo + 64 = hi2 := ⟨_, rfl⟩
     obtain ⟨q1, hq1⟩ : ∃ q1 : Nat, q + 1 = q1 := ⟨_, rfl⟩
     have hcut := cut_mid ga oa 128 cf lo hi2 (by omega) (by omega) (by omega)
     rw [show hi2 - lo = 64 by omega] at hcut
     have e0 : IntKind.i64.wrap ((q : Int) * 64) = (lo : Int) := by rw [wrap_i64 (by omega) (by omega)]; omega
     have e1 : IntKind.i64.wrap ((q : Int) + 1) = (q1 : Int) := by rw [wrap_i64 (by omega) (by omega)]; omega
     have e2 : IntKind.i64.wrap ((q1 : Int) * 64) = (hi2 : Int) := by rw [wrap_i64 (by omega) (by omega)]; omega
     have e3 : IntKind.i64.wrap (((q : Int) + 1) * 64) = (hi2 : Int) := by rw [wrap_i64 (by omega) (by omega)]; omega
     rw [hlo] at hpc HYS HY1
     have HWT : Hid (∀ V, Hid (Ext wr.drew V) → Calls Tryz.prog 58 #[.pointer (some ⟨d, 0, none⟩), .int .i64 (IntKind.i64.wrap ((S : Int) + (q : Int))), .slice (some ⟨ga, oa + lo, none⟩) 64 (cf - lo)] V (Outc d F'' V (mq.write ((S : Int) + (q : Int)) ((Lf.drop lo).take 64)).1 (mq.write ((S : Int) + (q : Int)) ((Lf.drop lo).take 64)).2)) := Lib.hid fun V hV => by
      have hx : Ext wr V := (Below.drew (Ext.refl wr)).trans hV.out
      rw [wrap_i64 (by omega) (by omega)]
      exact write_pd (HW.out.disk.ext hx) _ _ _ _ _ (hpc.ext hx) (fun z hz => by cases hz; exact HFB.out.2.1) hmq
     have HQ := Lib.hid (And.intro hlq hq1)
     clear hy1 hy2 hys hyw hpc hmq hrow hgr HY0 hlo hhi hq1 h64 h128 hcf hcm
     generalize mq.write ((S : Int) + (q : Int)) ((Lf.drop lo).take 64) = R at *
     obtain ⟨E2, m2⟩ := R
     dsimp only at HWT
     go_wp2_with fail
     go_region_held3 (fun w' => w'.cell? ⟨g, 1, none⟩ = some (.pointer (some ⟨d, 0, none⟩)) ∧ w'.cell? ⟨b, 0, none⟩ = some (.int .i64 (ix : Int)) ∧ w'.cell? ⟨b, 1, none⟩ = some (.int .i64 (ar : Int)) ∧ w'.cell? ⟨b, 2, none⟩ = some (.int .i64 (ct : Int)))
      (first | with_reducible exact hS0 | exact keepWr (by assumption) HC0 | exact hS5)
      (first
       | (go_at_call 167; ((with_reducible refine (HPL.out _).mono ?_); rintro e w4 ⟨rfl, hx⟩; have HXk := Lib.hid hx; clear hx))
       | (go_at_call 59; ((with_reducible refine (HFI.out _ HXk).mono ?_); rintro e w5 ⟨rfl, hx⟩; have HX5 : Hid (Ext wr.drew w5) := Lib.hid (HXk.out.trans hx); clear hx))
       | (go_at_call 58; ((with_reducible refine (HWT.out _ HX5).mono ?_); unfold Outc; rintro e w6 ⟨rfl, hd6, hm6⟩; have HD6 := Lib.hid (And.intro hd6 hm6); have hS5 := keepWrM (Lib.hid hm6) HNG (Lib.hid (keepWr HX5 HC0)); clear hd6 hm6)))
     have hx5 : Ext wr w5 := (Below.drew (Ext.refl wr)).trans HX5.out
     have HW6 := Lib.hid ((HW.out.ext hx5).step HD6.out.1 HD6.out.2)
     have HFB6 : Hid (By w6 (some ⟨ga, oa, none⟩) 128 cf Lf ∧ ¬ grow F'' w5 w6 ga ∧ ga < w6.heap.size) := Lib.hid ⟨By.mod (HFB.out.1.ext hx5) HD6.out.2 (fun z hz => by cases hz; exact HFB.out.2.1), grow_not HFB.out.2.1 (Nat.lt_of_lt_of_le HFB.out.2.2 hx5.size), Nat.lt_of_lt_of_le HFB.out.2.2 (Nat.le_trans hx5.size HD6.out.2.size)⟩
     clear hx5 hS0 hS5 hcut e0 e1 e2 e3
     by_cases h0 : E2 = 0
     ·subst h0
      go_wp2_with fail
      go_roundw
      case rel => exact ⟨q + 1, _, by omega, rfl, by go_num, Lib.hid (by rw [HY1.out]), by rw [HY1.out]; exact HW6, HFB6⟩
      case measure => simp [intOf]; omega
     ·have hne : (E2 != 0) = true := by simpa using h0
      have hneq : (E2 == 0) = false := by simpa using h0
      have hfin : m.wrY r inc ⟨ix, ar, ct⟩ k0 (lsOf L) = (E2, m2) := by
       have h1 := HYS.out h0
       have h2 := HST.out (by rw [h1]; exact h0)
       rw [h2, h1]
      have HFIN := Lib.hid hfin
      clear hfin h0
      go_wp2_with fail
      rw [Exit.noGoto_ret]
      refine bodyPost_ret (v := .int .i64 E2) (by simp [results, Tryz.results76, go_sem]) rfl ?_
      exact ⟨by rw [HFIN.out], _, by rw [HFIN.out]; exact HW6.out.base HE.out⟩
    ·obtain rfl : q = 2 := by omega
     go_wp2_with fail
     go_roundw
     case rel => exact ⟨j + 1, F'', by omega, rfl, by go_num, Lib.hid (by rw [HX1.out]; exact HY0.out), by rw [HX1.out]; exact HW⟩
     case measure => simp [intOf]; omega
  ·obtain rfl : j = n := by omega
   have ht : (lsOf L).take (lsOf L).length = lsOf L := List.take_of_length_le (Nat.le_refl _)
   rw [HLEN.out] at ht
   rw [ht] at HX0 HW
   have hfin : m.wrY r inc ⟨ix, ar, ct⟩ k0 (lsOf L) = (wrsY r inc ⟨ix, ar, ct⟩ (0, m) k0 (lsOf L)).2.flush := by
    unfold DM.wrY unE
    rw [if_pos HX0.out]
   have hgr := (HSH.out.mod HW.out.mod HNF.out.1).cells.2.1
   have HFIN := Lib.hid hfin
   clear hfin ht HX0
   generalize (wrsY r inc ⟨ix, ar, ct⟩ (0, m) k0 (lsOf L)).2 = mq at *
   have HFL := Lib.hid (flush_pd HW.out.disk)
   generalize mq.flush = R at *
   obtain ⟨E2, m2⟩ := R
   dsimp only at HFL
   go_wp2_with fail
   refine HFL.out.mono ?_
   unfold Outc
   rintro e w6 ⟨rfl, hd6, hm6⟩
   have HW6 := Lib.hid (HW.out.step hd6 hm6)
   clear hd6 hm6
   go_wp2_with fail
   rw [Exit.noGoto_ret]
   refine bodyPost_ret (v := .int .i64 E2) (by simp [results, Tryz.results76, go_sem]) rfl ?_
   exact ⟨by rw [HFIN.out], _, by rw [HFIN.out]; exact HW6.out.base HE.out⟩
theorem ywrite_of {w : World} {g d : Nat} {r inc : Int} {s : ShM} {F : Nat → Prop} {m : DM} (h : ShAt w g d r inc s) (hd : PDisk w d F m) (hg : ¬ F g) (hLM : ∀ V, Mod F w V → LaidY V) (ix ar ct : Nat) (har : ar ≤ 1) (k0 : Nat)
 (A : Option Addr) (n c : Nat) (L : List Lst) (hls : Lsts w w.heap.size A n c L) (hA : Off F A) (hO : ∀ a ∈ L, Off F a.A) (hk : k0 + n ≤ 8) (hin : ∀ a ∈ L, a.l.length ≤ 140737488355000)
 (hse : ∀ j a, L[j]? = some a → sealE r 5 ((8 * ar + (k0 + j) : Nat) : Int) (ix : Int) inc (prZL (ct : Int) a.l).length 2 = 0) (hfew : m.waits.length ≤ 999000) :
 Calls Tryz.prog 76 #[.pointer (some ⟨g, 0, none⟩), .agg #[.int .i64 (ix : Int), .int .i64 (ar : Int), .int .i64 (ct : Int)], .int .i64 (k0 : Int), .slice A n c] w fun e w' =>
  e = .returned (.int .i64 (m.wrY r inc ⟨ix, ar, ct⟩ k0 (lsOf L)).1) ∧ ∃ F', WY w d F F' w' (m.wrY r inc ⟨ix, ar, ct⟩ k0 (lsOf L)).2 :=
 ywrite_ofN h hd hg hLM ix ar ct har k0 A n c L hls hA (fun a ha _ => hO a ha) hk hin hse hfew
end
section
open Go Go.RowKit
theorem heal_put0 {m : DM} {r g : Int} (h : m.Ok) (hE : m.loadE r g = 0) (ha : atC r g (m.cb g 0) (m.cb g 1) = 0) (hs : sameC r g (m.cb g 0) (m.cb g 1) = false) :
 m.heal r g = m.putC (firstS (mfl (m.cb g 0) r g 0 1 : Nat) 1) (sealL (mfl (m.cb g 0) r g 0 0 : Nat) (mfl (m.cb g 0) r g 0 1 : Nat) 1 (mfl (m.cb g 0) r g 0 3 : Nat) (mfl (m.cb g 0) r g 0 4 : Nat) (mbl (m.cb g 0) r g 0) 1) := by
 obtain ⟨h0, h1, _⟩ := mine_copy (x := m.cb g 0) (p := 0) (read_sect h _) (atC_zero ha)
 rw [h0, h1]
 unfold DM.heal
 rw [if_neg (by rw [hE]; simp), if_neg (by rw [hs, ha]; simp), ha]
 unfold sealC otherP cellF cellB
 rw [if_pos ha, if_pos ha, if_pos ha]
 rfl
theorem heal_put1 {m : DM} {r g : Int} (h : m.Ok) (hE : m.loadE r g = 0) (ha : atC r g (m.cb g 0) (m.cb g 1) = 1) (hs : sameC r g (m.cb g 0) (m.cb g 1) = false) :
 m.heal r g = m.putC (firstS (mfl (m.cb g 1) r g 1 1 : Nat) 0) (sealL (mfl (m.cb g 1) r g 1 0 : Nat) (mfl (m.cb g 1) r g 1 1 : Nat) 0 (mfl (m.cb g 1) r g 1 3 : Nat) (mfl (m.cb g 1) r g 1 4 : Nat) (mbl (m.cb g 1) r g 1) 1) := by
 obtain ⟨h0, h1, _⟩ := mine_copy (x := m.cb g 1) (p := 1) (read_sect h _) (atC_one ha)
 rw [h0, h1]
 unfold DM.heal
 rw [if_neg (by rw [hE]; simp), if_neg (by rw [hs, ha]; simp), ha]
 unfold sealC otherP cellF cellB
 rw [if_neg (by rw [ha]; omega), if_pos ha, if_neg (by rw [ha]; omega), if_pos ha, if_neg (by rw [ha]; omega), if_pos ha]
 rfl
theorem heal_same {m : DM} {r g : Int} (hE : m.loadE r g = 0) (hs : atC r g (m.cb g 0) (m.cb g 1) = -1 ∨ sameC r g (m.cb g 0) (m.cb g 1) = true) : m.heal r g = (0, m) := by
 unfold DM.heal
 rw [if_neg (by rw [hE]; simp), if_pos hs]
theorem heal_err {m : DM} {r g E : Int} (hE : m.loadE r g = E) (h0 : E ≠ 0) : m.heal r g = (E, m) := by
 unfold DM.heal
 rw [if_pos (by rw [hE]; exact h0), hE]
theorem rout_refl {w w' : World} {d : Nat} {p : Nat → Nat} {m : DM} (h : RD w d p m) (hx : Ext w w') : ROut d p w m w' := ⟨p, h.ext hx, Mod.of_ext hx, fun _ hk => .inl hk⟩
set_option maxHeartbeats 1600000 in
theorem rheal_leaf {w : World} {d : Nat} {p : Nat → Nat} {m : DM} {L X Y : List Nat} {v z s f0 f1 f2 f3 f4 g0 g1 g2 g3 g4 : Nat} {RR : Int × DM} (H : Hid (RD w d p m)) (r g c c' : Int) (hc : 0 ≤ c ∧ c ≤ 1 ∧ 1 - c = c')
 (HL : Hid (Calls Tryz.prog 70 #[.pointer (some ⟨d, 0, none⟩), .int .i64 r, .int .i64 g] w fun e w' => ∃ A N c, e = .returned (.tuple #[.int .i64 (v : Int), .slice A N c, .int .i64 0]) ∧ By w' A N c L ∧ Ext w w'))
 (HWH : Hid (∀ V, Ext w V → Calls Tryz.prog 160 #[.pointer (some ⟨d, 0, none⟩), .int .i64 r, .int .i64 g] V fun e w' => e = .returned (.tuple #[.int .i64 c, .int .i64 0]) ∧ Ext V w'))
 (HM0 : Hid (∀ V, Ext w V → Calls Tryz.prog 161 #[.pointer (some ⟨d, 0, none⟩), .int .i64 r, .int .i64 g, .int .i64 c] V fun e w' => ∃ A N k, e = .returned (.tuple #[.int .u8 (z : Int), .agg #[.int .i64 (f0 : Int), .int .i64 (f1 : Int), .int .i64 (f2 : Int), .int .i64 (f3 : Int), .int .i64 (f4 : Int)], .slice A N k]) ∧ By w' A N k X ∧ Ext V w'))
 (HM1 : Hid (∀ V, Ext w V → Calls Tryz.prog 161 #[.pointer (some ⟨d, 0, none⟩), .int .i64 r, .int .i64 g, .int .i64 c'] V fun e w' => ∃ A N k, e = .returned (.tuple #[.int .u8 (s : Int), .agg #[.int .i64 (g0 : Int), .int .i64 (g1 : Int), .int .i64 (g2 : Int), .int .i64 (g3 : Int), .int .i64 (g4 : Int)], .slice A N k]) ∧ By w' A N k Y ∧ Ext V w'))
 (HS : Hid (s = 1 ∧ g3 = f3 ∧ Y = X → RR = (0, m)))
 (HP : Hid (¬ (s = 1 ∧ g3 = f3 ∧ Y = X) → ∀ V, Ext w V → ∀ A n cp, By V A n cp X → Calls Tryz.prog 163 #[.pointer (some ⟨d, 0, none⟩), .agg #[.int .i64 (f0 : Int), .int .i64 (f1 : Int), .int .i64 c', .int .i64 (f3 : Int), .int .i64 (f4 : Int)], .slice A n cp] V fun e w' => e = .returned (.int .i64 RR.1) ∧ ROut d p V RR.2 w')) :
 Calls Tryz.prog 72 #[.pointer (some ⟨d, 0, none⟩), .int .i64 r, .int .i64 g] w fun e w' => e = .returned (.int .i64 RR.1) ∧ ROut d p w RR.2 w' := by
 obtain ⟨hc0, hc1, hc2⟩ := hc
 go_enter Tryz.func72, Tryz.ntmps72
 go_wp2_with fail
 refine HL.out.mono ?_
 rintro e w1 ⟨_, _, _, rfl, _, hx⟩
 have HX := Lib.hid hx
 clear hx
 go_wp2_with fail
 refine (HWH.out _ HX.out).mono ?_
 rintro e w2 ⟨rfl, hx⟩
 have HX := Lib.hid (HX.out.trans hx)
 clear hx
 go_wp2_with fail
 refine (HM0.out _ HX.out).mono ?_
 rintro e w3 ⟨A0, N0, k0, rfl, hb, hx⟩
 have HX := Lib.hid (HX.out.trans hx)
 have HB0 := Lib.hid hb
 have HT0 := Lib.hid (heap_alloc_new w3 (.cells #[.int .i64 (f0 : Int), .int .i64 (f1 : Int), .int .i64 (f2 : Int), .int .i64 (f3 : Int), .int .i64 (f4 : Int)] 44))
 have HF0 := Lib.hid HX.out.size
 have HX3 := Lib.hid ((Ext.refl w3).alloc (.cells #[.int .i64 (f0 : Int), .int .i64 (f1 : Int), .int .i64 (f2 : Int), .int .i64 (f3 : Int), .int .i64 (f4 : Int)] 44))
 have HX := Lib.hid (HX.out.trans HX3.out)
 clear hx hb
 go_wp2_with fail
 refine (HM1.out _ HX.out).mono ?_
 rintro e w4 ⟨A1, N1, k1, rfl, hb, hx⟩
 have hy := (Ext.refl w4).alloc (.cells #[.int .i64 (g0 : Int), .int .i64 (g1 : Int), .int .i64 (g2 : Int), .int .i64 (g3 : Int), .int .i64 (g4 : Int)] 44)
 have HX := Lib.hid ((HX.out.trans hx).trans hy)
 have HX3 := Lib.hid ((HX3.out.trans hx).trans hy)
 have HB1 := Lib.hid (hb.ext hy)
 have HT0 := Lib.hid ((hx.block _ (Array.getElem?_eq_some_iff.1 HT0.out).1).trans HT0.out)
 have HT0 := Lib.hid ((hy.block _ (Array.getElem?_eq_some_iff.1 HT0.out).1).trans HT0.out)
 have HT1 := Lib.hid (heap_alloc_new w4 (.cells #[.int .i64 (g0 : Int), .int .i64 (g1 : Int), .int .i64 (g2 : Int), .int .i64 (g3 : Int), .int .i64 (g4 : Int)] 44))
 clear hx hb hy
 obtain ⟨⟨p0, p1, p2, p3, p4⟩, q0, q1, q2, q3, q4⟩ := five_cells HT0.out
 obtain ⟨⟨_, _, _, y3, _⟩, _⟩ := five_cells HT1.out
 by_cases b : s = 1 ∧ g3 = f3
 ·have e1 : ((s : Int) == 1) = true := by rw [b.1]; rfl
  have e2 : ((g3 : Int) == (f3 : Int)) = true := by rw [b.2]; simp
  have B := Lib.hid b
  obtain ⟨q, hq⟩ : ∃ q, decide (Y = X) = q := ⟨_, rfl⟩
  have HQ := Lib.hid hq
  clear b hq
  go_wp2_with fail
  refine (same_by A1 A0 Y X _ _ _ _ _ HB1.out (HB0.out.ext HX3.out)).mono ?_
  rw [HQ.out]
  rintro e w5 ⟨rfl, hx⟩
  have HX := Lib.hid (HX.out.trans hx)
  have HX3 := Lib.hid (HX3.out.trans hx)
  have HT0 := Lib.hid ((hx.block _ (Array.getElem?_eq_some_iff.1 HT0.out).1).trans HT0.out)
  clear hx p0 p1 p2 p3 p4 q0 q1 q2 q3 q4 y3
  obtain ⟨⟨p0, p1, p2, p3, p4⟩, q0, q1, q2, q3, q4⟩ := five_cells HT0.out
  cases q with
  | true =>
   have hR := HS.out ⟨B.out.1, B.out.2, of_decide_eq_true HQ.out⟩
   subst hR
   go_wp2_with fail
   go_ret
   exact ⟨rfl, rout_refl H.out HX.out⟩
  | false =>
   have HP := Lib.hid (HP.out fun h => of_decide_eq_false HQ.out h.2.2)
   go_wp2_with fail
   have hX2 := HX.out.setCell (p := ⟨w3.heap.size, 2, none⟩) HF0.out (.int .i64 c')
   refine (HP.out _ hX2 A0 N0 k0 (HB0.out.ext (HX3.out.setCell (p := ⟨w3.heap.size, 2, none⟩) (Nat.le_refl _) _))).mono ?_
   rintro e w6 ⟨rfl, ho⟩
   have HO := Lib.hid (ho.from hX2)
   clear ho hX2
   go_wp2_with fail
   go_ret
   exact ⟨rfl, HO.out⟩
 ·have HP := Lib.hid (HP.out fun h => b ⟨h.1, h.2.1⟩)
  rcases (show ((s : Int) == 1) = false ∨ ((s : Int) == 1) = true ∧ ((g3 : Int) == (f3 : Int)) = false by
   by_cases h1 : s = 1
   ·exact .inr ⟨by rw [h1]; rfl, by simp; intro h; exact b ⟨h1, by omega⟩⟩
   ·exact .inl (by simp; omega)) with e1 | ⟨e1, e2⟩
  all_goals
   clear b
   go_wp2_with fail
   have hX2 := HX.out.setCell (p := ⟨w3.heap.size, 2, none⟩) HF0.out (.int .i64 c')
   refine (HP.out _ hX2 A0 N0 k0 (HB0.out.ext (HX3.out.setCell (p := ⟨w3.heap.size, 2, none⟩) (Nat.le_refl _) _))).mono ?_
   rintro e w6 ⟨rfl, ho⟩
   have HO := Lib.hid (ho.from hX2)
   clear ho hX2
   go_wp2_with fail
   go_ret
   exact ⟨rfl, HO.out⟩
set_option maxHeartbeats 1600000 in
theorem rheal_of {w : World} {d : Nat} {p : Nat → Nat} {m : DM} (h : RD w d p m) (r g : Int) (hfew : m.waits.length + 1 ≤ 1000000) (hk : knownC m.size r g = 0) :
 Calls Tryz.prog 72 #[.pointer (some ⟨d, 0, none⟩), .int .i64 r, .int .i64 g] w fun e w' => e = .returned (.int .i64 (m.heal r g).1) ∧ ROut d p w (m.heal r g).2 w' := by
 have H := Lib.hid h
 have HM := fun pl V (hx : Ext w V) => rcmine_of (h.ext hx) r g pl (by omega)
 have hwh := fun V (hx : Ext w V) => rwhich_of (h.ext hx) r g (by omega)
 have HL := Lib.hid (rload_of h r g (by omega) hk)
 have hok := (rd_size h).2.2
 by_cases h0 : m.loadE r g = 0
 ·rw [h0] at HL
  rcases atC_cases r g (m.cb g 0) (m.cb g 1) with hc | hc | hc
  ·have hsm : sameC r g (m.cb g 0) (m.cb g 1) = (decide (stM (m.cb g 1) r g 1 = 1) && (decide (mfl (m.cb g 1) r g 1 3 = mfl (m.cb g 0) r g 0 3) && decide (mbl (m.cb g 1) r g 1 = mbl (m.cb g 0) r g 0))) := by unfold sameC; rw [if_pos hc]
   rw [hc, cellE_at (by rw [hc]; omega)] at hwh
   refine rheal_leaf H r g 0 1 (by omega) HL (Lib.hid hwh) (Lib.hid (HM 0)) (Lib.hid (HM 1)) (Lib.hid fun e => ?_) (Lib.hid fun e V hV A n cp hb => ?_)
   ·exact heal_same h0 (.inr (by rw [hsm, decide_eq_true e.1, decide_eq_true e.2.1, decide_eq_true e.2.2]; rfl))
   ·have := rput_of (H.out.ext hV) (mfl (m.cb g 0) r g 0 0 : Nat) (mfl (m.cb g 0) r g 0 1 : Nat) 1 (mfl (m.cb g 0) r g 0 3 : Nat) (mfl (m.cb g 0) r g 0 4 : Nat) A n cp _ hb hfew
    rw [← heal_put0 hok h0 hc (by rw [hsm, ← Bool.not_eq_true]; simp only [Bool.and_eq_true, decide_eq_true_iff]; exact e)] at this
    exact this
  ·have hsm : sameC r g (m.cb g 0) (m.cb g 1) = (decide (stM (m.cb g 0) r g 0 = 1) && (decide (mfl (m.cb g 0) r g 0 3 = mfl (m.cb g 1) r g 1 3) && decide (mbl (m.cb g 0) r g 0 = mbl (m.cb g 1) r g 1))) := by unfold sameC; rw [if_neg (by rw [hc]; omega)]
   rw [hc, cellE_at (by rw [hc]; omega)] at hwh
   refine rheal_leaf H r g 1 0 (by omega) HL (Lib.hid hwh) (Lib.hid (HM 1)) (Lib.hid (HM 0)) (Lib.hid fun e => ?_) (Lib.hid fun e V hV A n cp hb => ?_)
   ·exact heal_same h0 (.inr (by rw [hsm, decide_eq_true e.1, decide_eq_true e.2.1, decide_eq_true e.2.2]; rfl))
   ·have := rput_of (H.out.ext hV) (mfl (m.cb g 1) r g 1 0 : Nat) (mfl (m.cb g 1) r g 1 1 : Nat) 0 (mfl (m.cb g 1) r g 1 3 : Nat) (mfl (m.cb g 1) r g 1 4 : Nat) A n cp _ hb hfew
    rw [← heal_put1 hok h0 hc (by rw [hsm, ← Bool.not_eq_true]; simp only [Bool.and_eq_true, decide_eq_true_iff]; exact e)] at this
    exact this
  ·rw [heal_same h0 (.inl hc)]
   rw [hc] at hwh
   generalize cellE r g (m.cb g 0) (m.cb g 1) = E at *
   have HWH := Lib.hid hwh
   clear h HM hwh hfew hk hok hc h0
   go_enter Tryz.func72, Tryz.ntmps72
   go_wp2_with fail
   refine HL.out.mono ?_
   rintro e w1 ⟨_, _, _, rfl, _, hx⟩
   have HX := Lib.hid hx
   clear hx
   go_wp2_with fail
   refine (HWH.out _ HX.out).mono ?_
   rintro e w2 ⟨rfl, hx⟩
   have HX := Lib.hid (HX.out.trans hx)
   clear hx
   go_wp2_with fail
   go_ret
   exact ⟨rfl, rout_refl H.out HX.out⟩
 ·rw [heal_err rfl h0]
  generalize m.loadE r g = E at *
  have hne : (E != 0) = true := by simpa using h0
  clear h HM hwh hfew hk hok h0
  go_enter Tryz.func72, Tryz.ntmps72
  go_wp2_with fail
  refine HL.out.mono ?_
  rintro e w1 ⟨_, _, _, rfl, _, hx⟩
  have HX := Lib.hid hx
  clear hx
  go_wp2_with fail
  go_ret
  exact ⟨rfl, rout_refl H.out HX.out⟩
end
end Go.Proofs.YtmpaocpgoihliaaGreatDoor
