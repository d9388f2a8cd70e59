/-
  The contract of snap's write.
-/
import Derived.Test.YtgcinagkbdcgiaaGreatDoorR00
import Derived.Test.YtgcinagkbdcgiaaGreatDoorR11
import Derived.Test.YtgcinagkbdcgiaaGreatDoorR26
import Derived.Deep.RegionHeld3
import Derived.WalkMore
import Derived.Deep.DeepCutAuto
namespace Go.Proofs.YtgcinagkbdcgiaaGreatDoor
set_option maxRecDepth 100000
section
open Go Go.RowKit
theorem lsOf_atY {L : List Lst} {k : Nat} {a : Lst} (h : L[k]? = some a) : (lsOf L)[k]? = some a.l := by
  unfold lsOf
  rw [List.getElem?_map, h]; rfl
theorem keepWr {V W : World} {g b d : Nat} {x0 x1 x2 : Value} (k : Hid (Ext V.drew W)) (h : Hid (V.cell? ⟨g, 1, none⟩ = some (.pointer (some ⟨d, 0, none⟩)) ∧ V.cell? ⟨b, 0, none⟩ = some x0 ∧ V.cell? ⟨b, 1, none⟩ = some x1 ∧ V.cell? ⟨b, 2, none⟩ = some x2)) :
    W.cell? ⟨g, 1, none⟩ = some (.pointer (some ⟨d, 0, none⟩)) ∧ W.cell? ⟨b, 0, none⟩ = some x0 ∧ W.cell? ⟨b, 1, none⟩ = some x1 ∧ W.cell? ⟨b, 2, none⟩ = some x2 :=
  have hx : Ext V W := (Below.drew (Ext.refl V)).trans k.out
  ⟨ext_of_cell hx h.out.1, ext_of_cell hx h.out.2.1, ext_of_cell hx h.out.2.2.1, ext_of_cell hx h.out.2.2.2⟩
theorem keepWrM {V W : World} {F : Nat → Prop} {g b d : Nat} {x0 x1 x2 : Value} (k : Hid (Mod F V W)) (hn : Hid (¬ F g ∧ ¬ F b)) (h : Hid (V.cell? ⟨g, 1, none⟩ = some (.pointer (some ⟨d, 0, none⟩)) ∧ V.cell? ⟨b, 0, none⟩ = some x0 ∧ V.cell? ⟨b, 1, none⟩ = some x1 ∧ V.cell? ⟨b, 2, none⟩ = some x2)) :
    W.cell? ⟨g, 1, none⟩ = some (.pointer (some ⟨d, 0, none⟩)) ∧ W.cell? ⟨b, 0, none⟩ = some x0 ∧ W.cell? ⟨b, 1, none⟩ = some x1 ∧ W.cell? ⟨b, 2, none⟩ = some x2 :=
  ⟨mod_cell k.out hn.out.1 h.out.1, mod_cell k.out hn.out.2 h.out.2.1, mod_cell k.out hn.out.2 h.out.2.2.1, mod_cell k.out hn.out.2 h.out.2.2.2⟩
set_option maxHeartbeats 800000 in
theorem ywrite_of {w : World} {g d : Nat} {r inc : Int} {s : ShM} {F : Nat → Prop} {m : DM} (h : ShAt w g d r inc s) (hd : PDisk w d F m) (hg : ¬ F g) (hLM : ∀ V, Mod F w V → LaidY V) (ix ar ct : Nat) (har : ar ≤ 1) (k0 : Nat)
    (A : Option Addr) (n c : Nat) (L : List Lst) (hls : Lsts w w.heap.size A n c L) (hA : Off F A) (hO : ∀ a ∈ L, Off F a.A) (hk : k0 + n ≤ 8) (hin : ∀ a ∈ L, a.l.length ≤ 140737488355000)
    (hse : ∀ j a, L[j]? = some a → sealE r 5 ((8 * ar + (k0 + j) : Nat) : Int) (ix : Int) inc (prZL (ct : Int) a.l).length 2 = 0) (hfew : m.waits.length ≤ 999000) :
    Calls Tryz.prog 96 #[.pointer (some ⟨g, 0, none⟩), .agg #[.int .i64 (ix : Int), .int .i64 (ar : Int), .int .i64 (ct : Int)], .int .i64 (k0 : Int), .slice A n c] w fun e w' =>
      e = .returned (.int .i64 (m.wrY r inc ⟨ix, ar, ct⟩ k0 (lsOf L)).1) ∧ ∃ F', WY w d F F' w' (m.wrY r inc ⟨ix, ar, ct⟩ k0 (lsOf L)).2 := by
  have hE := (Ext.refl w).alloc (.cells #[.int .i64 (ix : Int), .int .i64 (ar : Int), .int .i64 (ct : Int)] 158)
  have hz := heap_alloc_new w (.cells #[.int .i64 (ix : Int), .int .i64 (ar : Int), .int .i64 (ct : Int)] 158)
  have hbF : ¬ F w.heap.size := fun hf => by have := hd.lt _ hf; omega
  obtain ⟨wB, hwB⟩ : ∃ wB, w.alloc (.cells #[.int .i64 (ix : Int), .int .i64 (ar : Int), .int .i64 (ct : Int)] 158) = wB := ⟨_, rfl⟩
  rw [hwB] at hE hz
  have hlsB := hls.ext hE
  have hgB := (h.ext hE).lt
  have HE := Lib.hid hE
  have HZ := Lib.hid (And.intro hz (Array.getElem?_eq_some_iff.1 hz).1)
  have HSH := Lib.hid (h.ext hE)
  have HGB := Lib.hid hgB
  have HLS := Lib.hid hlsB
  have HW0 : Hid (WY wB d F F wB m) := Lib.hid (WY.start (hd.ext hE))
  have HLM : Hid (∀ V, Mod F wB V → LaidY V) := Lib.hid fun V hV => hLM V ((Mod.of_ext hE).trans hV fun _ hi => .inl hi)
  have HOFF := Lib.hid (And.intro hA hO)
  have HNF := Lib.hid (And.intro hg hbF)
  have HSE := Lib.hid hse
  have HIN := Lib.hid hin
  have HFW := Lib.hid hfew
  have hlen : (lsOf L).length = n := by unfold lsOf; rw [List.length_map]; exact hls.len
  have HLEN := Lib.hid hlen
  clear h hd hg hLM hls hA hO hin hse hfew hE hz hlsB hgB hbF hlen
  generalize hb0 : w.heap.size = b at *
  go_enter Tryz.func96, Tryz.ntmps96
  go_wp2_with fail
  go_step3
  go_wp2_with fail
  go_step3
  go_wp2_with fail
  have HWB : Hid (w.alloc (.cells #[.int .i64 (ix : Int), .int .i64 (ar : Int), .int .i64 (ct : Int)] 158) = wB) := Lib.hid hwB
  clear hwB
  go_loopw [9, 17] (fun v i wr => ∃ (j : Nat) (F' : Nat → Prop), j ≤ n ∧ v = .int .i64 0 ∧ i = .int .i64 (j : Int) ∧ Hid ((wrsY r inc ⟨ix, ar, ct⟩ (0, m) k0 ((lsOf L).take j)).1 = 0) ∧ Hid (WY wB d F F' wr (wrsY r inc ⟨ix, ar, ct⟩ (0, m) k0 ((lsOf L).take j)).2)) (fun _ i _ => n - (intOf i).toNat)
  case atStart => exact ⟨0, F, by omega, rfl, rfl, Lib.hid rfl, HW0⟩
  case round =>
    obtain ⟨j, F', hj, rfl, rfl, HX0, HW⟩ := hrel
    by_cases hlt : j < n
    · obtain ⟨gl, ol, a, eA, ha, hby, hcell⟩ := Lsts.modY HLS.out HW.out.mod HOFF.out.1 HOFF.out.2 hlt
      have hse := HSE.out j a ha
      have hin := HIN.out a (List.mem_of_getElem? ha)
      have hx1 : wrsY r inc ⟨ix, ar, ct⟩ (0, m) k0 ((lsOf L).take (j + 1)) = wrsE (wrsY r inc ⟨ix, ar, ct⟩ (0, m) k0 ((lsOf L).take j)) (firstS 5 ((8 * ar + (k0 + j) : Nat) : Int)) (frmY r inc ⟨ix, ar, ct⟩ (k0 + j) a.l) 2 := by
        rw [List.take_add_one, lsOf_atY ha, Option.toList_some, wrsY_snoc, List.length_take, HLEN.out, Nat.min_eq_left (by omega)]
      have hwt := wrsY_waits (r := r) (inc := inc) (s := ⟨ix, ar, ct⟩) ((lsOf L).take j) (0, m) k0
      rw [List.length_take] at hwt
      have hstop : (wrsY r inc ⟨ix, ar, ct⟩ (0, m) k0 ((lsOf L).take (j + 1))).1 ≠ 0 → m.wrY r inc ⟨ix, ar, ct⟩ k0 (lsOf L) = wrsY r inc ⟨ix, ar, ct⟩ (0, m) k0 ((lsOf L).take (j + 1)) := fun he => by
        unfold DM.wrY
        rw [wrsY_stop he]
        exact if_neg he
      obtain ⟨p, hp⟩ : ∃ p : Nat, 8 * ar + (k0 + j) = p := ⟨_, rfl⟩
      have hp16 : p < 16 := by omega
      have hfs := first5 hp16
      have hsc := sC_lt hp16
      obtain ⟨S, hS⟩ : ∃ S : Nat, sC p = S := ⟨_, rfl⟩
      rw [hS] at hfs hsc
      have hfl : (frmY r inc ⟨ix, ar, ct⟩ (k0 + j) a.l).length = 128 := by
        have := (sealL_len hse).1
        unfold frmY
        exact this
      have hsl := yseal_of (HSH.out.mod HW.out.mod HNF.out.1) (HLM.out _ HW.out.mod) ix ar ct har (k0 + j) (by omega) a.A a.n a.c a.l hby (by rw [← hby.len]; exact hin)
      have hpl := yplace_of ix ar ct (k0 + j) har (by omega)
      rw [hp] at hx1 hse hpl hsl
      rw [hfs] at hx1
      have hsl2 : Calls Tryz.prog 188 #[.pointer (some ⟨g, 0, none⟩), .agg #[.int .i64 (ix : Int), .int .i64 (ar : Int), .int .i64 (ct : Int)], .int .i64 ((k0 : Int) + (j : Int)), .slice a.A a.n a.c] wr fun e w' => ∃ A' c', e = .returned (.slice A' (frmY r inc ⟨ix, ar, ct⟩ (k0 + j) a.l).length c') ∧ By w' A' (frmY r inc ⟨ix, ar, ct⟩ (k0 + j) a.l).length c' (frmY r inc ⟨ix, ar, ct⟩ (k0 + j) a.l) ∧ (∀ q, A' = some q → wr.heap.size ≤ q.block) ∧ Ext wr w' := by
        rw [← Int.natCast_add]
        exact hsl.mono fun e w' ⟨A', c', h1, h2, h3, h4⟩ => ⟨A', c', h1, h2, h3 hse, h4⟩
      clear hsl
      have hsl := hsl2
      clear hsl2
      rw [Int.natCast_add] at hpl
      obtain ⟨Lf, hLf⟩ : ∃ Lf, frmY r inc ⟨ix, ar, ct⟩ (k0 + j) a.l = Lf := ⟨_, rfl⟩
      rw [hLf] at hx1 hsl hfl
      rw [hfl] at hsl
      rw [hx1] at hstop
      generalize wrsY r inc ⟨ix, ar, ct⟩ (0, m) k0 ((lsOf L).take j) = X at *
      obtain ⟨X0, mj⟩ := X
      obtain rfl : X0 = 0 := HX0.out
      have HX1 := Lib.hid hx1
      have HST := Lib.hid hstop
      have HSL := Lib.hid hsl
      have HPL := Lib.hid hpl
      have HFS := Lib.hid hfs
      have HFL := Lib.hid hfl
      have hmj : mj.waits.length ≤ 999500 := by have := HFW.out; dsimp only at hwt; omega
      have HMJ := Lib.hid hmj
      have hrow := (HW.out.mod.block b HZ.out.2 HNF.out.2).trans HZ.out.1
      have c0 := cell_of_row wr b 0 _ _ _ hrow
      have c1 := cell_of_row wr b 1 _ _ _ hrow
      have c2 := cell_of_row wr b 2 _ _ _ hrow
      subst eA
      clear hx1 hstop hsl hpl hfs hfl hmj hwt hse hin hby ha hrow hS hp hLf HX0 HW0
      go_wp2_with fail
      refine HSL.out.mono ?_
      rintro e w2 ⟨Af, cf, rfl, hby, hfr, hx⟩
      obtain ⟨ga, oa, eAf, hga, _⟩ := hby.rd.2 (by rw [HFL.out]; omega)
      subst eAf
      have hga2 : wr.heap.size ≤ ga := hfr _ rfl
      have hnga : ¬ F' ga := fun hf => by have := HW.out.disk.lt _ hf; omega
      have HW2 := Lib.hid (HW.out.ext hx)
      have HFB := Lib.hid (And.intro hby (And.intro hnga hga))
      clear hby hfr hx hga hga2 hnga HSL c0 c1 c2 hcell
      go_wp2_with fail
      refine (wide_any 5 _ (HLM.out _ HW2.out.mod).f.a.t).mono ?_
      rw [show wid 5 = 2 from rfl]
      rintro e w3 ⟨rfl, hx⟩
      have HW3 := Lib.hid (HW2.out.ext hx)
      have HFB3 : Hid (By w3 (some ⟨ga, oa, none⟩) 128 cf Lf ∧ ¬ F' ga ∧ ga < w3.heap.size) := Lib.hid ⟨HFB.out.1.ext hx, HFB.out.2.1, Nat.lt_of_lt_of_le HFB.out.2.2 hx.size⟩
      clear hx HFB HW2 HW
      go_wp2_with fail
      go_loopw [9, 31] (fun v i wr => ∃ (q : Nat) (F'' : Nat → Prop), q ≤ 2 ∧ v = .int .i64 0 ∧ i = .int .i64 (q : Int) ∧ Hid ((wrsE (0, mj) (S : Int) Lf q).1 = 0) ∧ Hid (WY wB d F F'' wr (wrsE (0, mj) (S : Int) Lf q).2) ∧ Hid (By wr (some ⟨ga, oa, none⟩) 128 cf Lf ∧ ¬ F'' ga ∧ ga < wr.heap.size)) (fun _ i _ => 2 - (intOf i).toNat)
      case atStart => exact ⟨0, F', by omega, rfl, rfl, Lib.hid rfl, HW3, HFB3⟩
      case round =>
        obtain ⟨q, F'', hq, rfl, rfl, HY0, HW, HFB⟩ := hrel
        by_cases hlq : q < 2
        · have hy1 : wrsE (0, mj) (S : Int) Lf (q + 1) = unE (wrsE (0, mj) (S : Int) Lf q) fun m => m.write ((S : Int) + (q : Int)) ((Lf.drop (64 * q)).take 64) := rfl
          have hyw := wrs_waits (m := mj) (E := 0) (S := (S : Int)) (L := Lf) q
          have hys : (wrsE (0, mj) (S : Int) Lf (q + 1)).1 ≠ 0 → wrsE (0, mj) (S : Int) Lf 2 = wrsE (0, mj) (S : Int) Lf (q + 1) := wrs_stop (by omega)
          rw [hy1] at hys
          generalize wrsE (0, mj) (S : Int) Lf q = Y at *
          obtain ⟨Y0, mq⟩ := Y
          obtain rfl : Y0 = 0 := HY0.out
          have hy2 : unE ((0 : Int), mq) (fun m => m.write ((S : Int) + (q : Int)) ((Lf.drop (64 * q)).take 64)) = mq.write ((S : Int) + (q : Int)) ((Lf.drop (64 * q)).take 64) := if_pos rfl
          rw [hy2] at hy1 hys
          have hpc := By.piece HFB.out.1 (64 * q) (by omega)
          have hmq : mq.waits.length ≤ 1000000 := by have := HMJ.out; dsimp only at hyw; omega
          have hrow := (HW.out.mod.block b HZ.out.2 HNF.out.2).trans HZ.out.1
          have hgr := (HSH.out.mod HW.out.mod HNF.out.1).cells.2.1
          have hS0 : wr.drew.cell? ⟨g, 1, none⟩ = some (.pointer (some ⟨d, 0, none⟩)) ∧ wr.drew.cell? ⟨b, 0, none⟩ = some (.int .i64 (ix : Int)) ∧ wr.drew.cell? ⟨b, 1, none⟩ = some (.int .i64 (ar : Int)) ∧ wr.drew.cell? ⟨b, 2, none⟩ = some (.int .i64 (ct : Int)) := ⟨hgr, cell_of_row wr b 0 _ _ _ hrow, cell_of_row wr b 1 _ _ _ hrow, cell_of_row wr b 2 _ _ _ hrow⟩
          have HC0 : Hid (wr.cell? ⟨g, 1, none⟩ = some (.pointer (some ⟨d, 0, none⟩)) ∧ wr.cell? ⟨b, 0, none⟩ = some (.int .i64 (ix : Int)) ∧ wr.cell? ⟨b, 1, none⟩ = some (.int .i64 (ar : Int)) ∧ wr.cell? ⟨b, 2, none⟩ = some (.int .i64 (ct : Int))) := Lib.hid hS0
          have HLW : Hid (∀ V, Hid (Ext wr.drew V) → LaidY V) := Lib.hid fun V hV => HLM.out V (HW.out.mod.ext ((Below.drew (Ext.refl wr)).trans hV.out))
          have HFI : Hid (∀ V, Hid (Ext wr.drew V) → Calls Tryz.prog 52 #[.int .i64 5, .int .i64 (p : Int)] V fun e w' => e = .returned (.int .i64 (S : Int)) ∧ Ext V w') := Lib.hid fun V hV => by rw [← HFS.out]; exact first_any 5 (p : Int) V (HLW.out V hV).f.a.t
          have HNG : Hid (¬ F'' g ∧ ¬ F'' b) := Lib.hid ⟨HW.out.not_ HGB.out HNF.out.1, HW.out.not_ HZ.out.2 HNF.out.2⟩
          have HYS := Lib.hid hys
          have HY1 := Lib.hid hy1
          have hcf := HFB.out.1.cap
          have hcm := HFB.out.1.most
          have h64 : (64 : Int) ≤ (cf : Int) := by omega
          have h128 : (128 : Int) ≤ (cf : Int) := by omega
          obtain ⟨lo, hlo⟩ : ∃ lo : Nat, 64 * q = lo := ⟨_, rfl⟩
          obtain ⟨hi2, hhi⟩ : ∃ hi2 : Nat, lo + 64 = hi2 := ⟨_, rfl⟩
          obtain ⟨q1, hq1⟩ : ∃ q1 : Nat, q + 1 = q1 := ⟨_, rfl⟩
          have hcut := cut_mid ga oa 128 cf lo hi2 (by omega) (by omega) (by omega)
          rw [show hi2 - lo = 64 by omega] at hcut
          have e0 : IntKind.i64.wrap ((q : Int) * 64) = (lo : Int) := by rw [wrap_i64 (by omega) (by omega)]; omega
          have e1 : IntKind.i64.wrap ((q : Int) + 1) = (q1 : Int) := by rw [wrap_i64 (by omega) (by omega)]; omega
          have e2 : IntKind.i64.wrap ((q1 : Int) * 64) = (hi2 : Int) := by rw [wrap_i64 (by omega) (by omega)]; omega
          have e3 : IntKind.i64.wrap (((q : Int) + 1) * 64) = (hi2 : Int) := by rw [wrap_i64 (by omega) (by omega)]; omega
          rw [hlo] at hpc HYS HY1
          have HWT : Hid (∀ V, Hid (Ext wr.drew V) → Calls Tryz.prog 79 #[.pointer (some ⟨d, 0, none⟩), .int .i64 (IntKind.i64.wrap ((S : Int) + (q : Int))), .slice (some ⟨ga, oa + lo, none⟩) 64 (cf - lo)] V (Outc d F'' V (mq.write ((S : Int) + (q : Int)) ((Lf.drop lo).take 64)).1 (mq.write ((S : Int) + (q : Int)) ((Lf.drop lo).take 64)).2)) := Lib.hid fun V hV => by
            have hx : Ext wr V := (Below.drew (Ext.refl wr)).trans hV.out
            rw [wrap_i64 (by omega) (by omega)]
            exact write_pd (HW.out.disk.ext hx) _ _ _ _ _ (hpc.ext hx) (fun z hz => by cases hz; exact HFB.out.2.1) hmq
          have HQ := Lib.hid (And.intro hlq hq1)
          clear hy1 hy2 hys hyw hpc hmq hrow hgr HY0 hlo hhi hq1 h64 h128 hcf hcm
          generalize mq.write ((S : Int) + (q : Int)) ((Lf.drop lo).take 64) = R at *
          obtain ⟨E2, m2⟩ := R
          dsimp only at HWT
          go_wp2_with fail
          go_region_held3 (fun w' => w'.cell? ⟨g, 1, none⟩ = some (.pointer (some ⟨d, 0, none⟩)) ∧ w'.cell? ⟨b, 0, none⟩ = some (.int .i64 (ix : Int)) ∧ w'.cell? ⟨b, 1, none⟩ = some (.int .i64 (ar : Int)) ∧ w'.cell? ⟨b, 2, none⟩ = some (.int .i64 (ct : Int)))
            (first | with_reducible exact hS0 | exact keepWr (by assumption) HC0 | exact hS5)
            (first
              | (go_at_call 189; ((with_reducible refine (HPL.out _).mono ?_); rintro e w4 ⟨rfl, hx⟩; have HXk := Lib.hid hx; clear hx))
              | (go_at_call 52; ((with_reducible refine (HFI.out _ HXk).mono ?_); rintro e w5 ⟨rfl, hx⟩; have HX5 : Hid (Ext wr.drew w5) := Lib.hid (HXk.out.trans hx); clear hx))
              | (go_at_call 79; ((with_reducible refine (HWT.out _ HX5).mono ?_); unfold Outc; rintro e w6 ⟨rfl, hd6, hm6⟩; have HD6 := Lib.hid (And.intro hd6 hm6); have hS5 := keepWrM (Lib.hid hm6) HNG (Lib.hid (keepWr HX5 HC0)); clear hd6 hm6)))
          have hx5 : Ext wr w5 := (Below.drew (Ext.refl wr)).trans HX5.out
          have HW6 := Lib.hid ((HW.out.ext hx5).step HD6.out.1 HD6.out.2)
          have HFB6 : Hid (By w6 (some ⟨ga, oa, none⟩) 128 cf Lf ∧ ¬ grow F'' w5 w6 ga ∧ ga < w6.heap.size) := Lib.hid ⟨By.mod (HFB.out.1.ext hx5) HD6.out.2 (fun z hz => by cases hz; exact HFB.out.2.1), grow_not HFB.out.2.1 (Nat.lt_of_lt_of_le HFB.out.2.2 hx5.size), Nat.lt_of_lt_of_le HFB.out.2.2 (Nat.le_trans hx5.size HD6.out.2.size)⟩
          clear hx5 hS0 hS5 hcut e0 e1 e2 e3
          by_cases h0 : E2 = 0
          · subst h0
            go_wp2_with fail
            go_roundw
            case rel => exact ⟨q + 1, _, by omega, rfl, by go_num, Lib.hid (by rw [HY1.out]), by rw [HY1.out]; exact HW6, HFB6⟩
            case measure => simp [intOf]; omega
          · have hne : (E2 != 0) = true := by simpa using h0
            have hneq : (E2 == 0) = false := by simpa using h0
            have hfin : m.wrY r inc ⟨ix, ar, ct⟩ k0 (lsOf L) = (E2, m2) := by
              have h1 := HYS.out h0
              have h2 := HST.out (by rw [h1]; exact h0)
              rw [h2, h1]
            have HFIN := Lib.hid hfin
            clear hfin h0
            go_wp2_with fail
            rw [Exit.noGoto_ret]
            refine bodyPost_ret (v := .int .i64 E2) (by simp [results, Tryz.results96, go_sem]) rfl ?_
            exact ⟨by rw [HFIN.out], _, by rw [HFIN.out]; exact HW6.out.base HE.out⟩
        · obtain rfl : q = 2 := by omega
          go_wp2_with fail
          go_roundw
          case rel => exact ⟨j + 1, F'', by omega, rfl, by go_num, Lib.hid (by rw [HX1.out]; exact HY0.out), by rw [HX1.out]; exact HW⟩
          case measure => simp [intOf]; omega
    · obtain rfl : j = n := by omega
      have ht : (lsOf L).take (lsOf L).length = lsOf L := List.take_of_length_le (Nat.le_refl _)
      rw [HLEN.out] at ht
      rw [ht] at HX0 HW
      have hfin : m.wrY r inc ⟨ix, ar, ct⟩ k0 (lsOf L) = (wrsY r inc ⟨ix, ar, ct⟩ (0, m) k0 (lsOf L)).2.flush := by
        unfold DM.wrY unE
        rw [if_pos HX0.out]
      have hgr := (HSH.out.mod HW.out.mod HNF.out.1).cells.2.1
      have HFIN := Lib.hid hfin
      clear hfin ht HX0
      generalize (wrsY r inc ⟨ix, ar, ct⟩ (0, m) k0 (lsOf L)).2 = mq at *
      have HFL := Lib.hid (flush_pd HW.out.disk)
      generalize mq.flush = R at *
      obtain ⟨E2, m2⟩ := R
      dsimp only at HFL
      go_wp2_with fail
      refine HFL.out.mono ?_
      unfold Outc
      rintro e w6 ⟨rfl, hd6, hm6⟩
      have HW6 := Lib.hid (HW.out.step hd6 hm6)
      clear hd6 hm6
      go_wp2_with fail
      rw [Exit.noGoto_ret]
      refine bodyPost_ret (v := .int .i64 E2) (by simp [results, Tryz.results96, go_sem]) rfl ?_
      exact ⟨by rw [HFIN.out], _, by rw [HFIN.out]; exact HW6.out.base HE.out⟩
end
end Go.Proofs.YtgcinagkbdcgiaaGreatDoor
