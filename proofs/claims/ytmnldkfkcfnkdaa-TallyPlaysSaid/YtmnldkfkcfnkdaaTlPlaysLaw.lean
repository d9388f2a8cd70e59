/-
  Whatever is done to a tally, it answers what the chapter says: the law's walk.
-/
import Derived.Test.YtmnldkfkcfnkdaaTlDrop
import Derived.Test.YtmnldkfkcfnkdaaTlRef4
import Derived.Test.YtmnldkfkcfnkdaaTlTy
import Derived.Deep.DeepCutAuto
import Derived.Deep.RegionHeld
namespace Go.Proofs.Ytmnldkfkcfnkdaa
open Go Go.RowKit Go.Maps

theorem act_rowT {w : World} {b : Nat} {v0 v1 v2 : Value} {t : TypeId} {fr : Nat × Nat} (h : w.heap[b]? = some (.cells #[v0, v1, v2] t fr)) : w.cell? ⟨b, 0, none⟩ = some v0 ∧ w.cell? ⟨b, 1, none⟩ = some v1 ∧ w.cell? ⟨b, 2, none⟩ = some v2 :=
  ⟨cell_of_row w b 0 _ _ _ h, cell_of_row w b 1 _ _ _ h, cell_of_row w b 2 _ _ _ h⟩
theorem FR_low {w : World} {q n k : Nat} {v : Value} {L : List (Int × Nat)} (z : RQ w q n v L) (hk : k < q) : ¬ FR q v k := fun h => by
  rcases h with h | h
  · omega
  · have := ((World.ownsRow.lt z.own) k h).1
    omega
/-- Both tallies side by side: the program's below the document's. -/
structure BothT (w : World) (B h bm q n : Nat) (v : Value) (L : List (Int × Nat)) : Prop where
  t : TQ w h n bm L
  r : RQ w q n v L
  h0 : B ≤ h
  b0 : B ≤ bm
  hq : h < q
  bq : bm < q
section
variable {w w' : World} {B h bm q n : Nat} {v : Value} {L : List (Int × Nat)}
theorem BothT.ext (z : BothT w B h bm q n v L) (hx : Ext w w') : BothT w' B h bm q n v L := ⟨z.t.ext hx, z.r.ext hx, z.h0, z.b0, z.hq, z.bq⟩
end
set_option maxRecDepth 100000 in
set_option maxHeartbeats 3200000 in
theorem tallyPlays_law (n : Int) (A : Option Addr) (m c : Nat) (l : List ActT) (w : World) (_ : (Lit.int .i64 n).wf = true) (hl : Ls ActT.cells 3 w w.heap.size A m c l ∧ ∀ a ∈ l, a.Wf) :
    Calls Try.prog 3 #[.int .i64 n, .slice A m c] w fun e w' => e = .returned (.bool true) ∧ Below w.heap.size w w' := by
  show Calls Try.prog 3 #[.int .i64 n, .slice A m c] w fun e w' => e = .returned (.bool true) ∧ Ext w w'
  obtain ⟨h, hwf⟩ := hl
  have hcap := h.cap
  have hmost := h.most
  have H := Lib.hid h
  have HWF := Lib.hid hwf
  clear h hwf
  by_cases h300 : m ≤ 300
  case neg =>
    have hm : (300 : Int) < (m : Int) := by omega
    go_enter Try.func3, Try.ntmps3
    go_wp2_with fail
    go_ret
    exact ⟨rfl, Ext.refl w⟩
  have hm : ¬ (300 : Int) < (m : Int) := by omega
  by_cases hmo : mostQ n = 0
  · have HMO := Lib.hid hmo
    clear hmo
    go_enter Try.func3, Try.ntmps3
    go_wp2_with fail
    refine (tnew_no n HMO.out _).mono ?_
    rintro e w1 ⟨rfl, rfl⟩
    go_wp2_with fail
    refine (rtnew_no n HMO.out _).mono ?_
    rintro e w1 ⟨rfl, rfl⟩
    go_wp2_with fail
    go_ret
    exact ⟨rfl, Ext.refl _⟩
  obtain ⟨N, rfl, hN⟩ : ∃ N : Nat, n = (N : Int) ∧ (N = 3 ∨ N = 5 ∨ N = 7) := by
    rcases mostQ_cases hmo with rfl | rfl | rfl
    · exact ⟨3, rfl, .inl rfl⟩
    · exact ⟨5, rfl, .inr (.inl rfl)⟩
    · exact ⟨7, rfl, .inr (.inr rfl)⟩
  have HN := Lib.hid hN
  clear hN hmo
  go_enter Try.func3, Try.ntmps3
  go_wp2_with fail
  refine (tnew_yes N HN.out _).mono ?_
  rintro e w1 ⟨p, bm, rfl, hz, hx, hp, hb⟩
  have HZ := Lib.hid hz
  have HX := Lib.hid hx
  have HB := Lib.hid (And.intro hp hb)
  clear hz hx hp hb
  go_wp2_with fail
  refine (rtnew_yes N HN.out _).mono ?_
  rintro e w2 ⟨q, rfl, hr, hx, hq⟩
  have HBo : Hid (BothT w2 w.heap.size p bm q N (.slice none 0 0) []) := Lib.hid ⟨HZ.out.ext hx, hr, HB.out.1, HB.out.2, by have := HZ.out.lt; omega, by have := HZ.out.map.lt; omega⟩
  have HX := Lib.hid (HX.out.trans hx)
  clear hr hx hq
  go_wp2_with fail
  go_loopw [8] (fun iv wr => ∃ (i : Nat) (v : Value) (L : List (Int × Nat)), i ≤ m ∧ iv = .int .i64 (i : Int) ∧ Hid (BothT wr w.heap.size p bm q N v L) ∧ Hid (Ext w wr)) (fun iv _ => m - (intOf iv).toNat)
  case atStart => exact ⟨0, _, [], Nat.zero_le _, rfl, HBo, HX⟩
  case round =>
    obtain ⟨i, v, L, hi, rfl, HBo, HX⟩ := hrel
    by_cases hlt : i < m
    · obtain ⟨g, o, a, rfl, hg, hla, hac⟩ := (H.out.below HX.out).at_ hlt
      have hawf := HWF.out a (List.mem_of_getElem? hla)
      obtain ⟨ak, ai, ar⟩ := a
      obtain ⟨wk, wi, wr_⟩ := hawf
      dsimp only at wk wi wr_
      have c0 : wr.cell? ⟨g, o + i * 3, none⟩ = some (.int .u8 (ak : Int)) := hac 0 _ rfl
      have c1 : wr.cell? ⟨g, o + i * 3 + 1, none⟩ = some (.int .i64 ai) := hac 1 _ rfl
      have c2 : wr.cell? ⟨g, o + i * 3 + 2, none⟩ = some (.int .i64 ar) := hac 2 _ rfl
      have HWI := Lib.hid wi
      clear hac hla hg wi wr_
      go_upto_region 13 with (fail)
      clear c0 c1 c2
      have hrow := heap_alloc_new wr (.cells #[.int .u8 (ak : Int), .int .i64 ai, .int .i64 ar] 30)
      have hx := (Ext.refl wr).alloc (.cells #[.int .u8 (ak : Int), .int .i64 ai, .int .i64 ar] 30)
      have hbq : q < wr.heap.size ∧ bm < wr.heap.size ∧ ∀ k, v.ownBlock = some k → k < wr.heap.size := ⟨HBo.out.r.lt, HBo.out.t.map.lt, fun k hk => (World.ownsRow.lt HBo.out.r.own k hk).2⟩
      generalize wr.alloc (.cells #[.int .u8 (ak : Int), .int .i64 ai, .int .i64 ar] 30) = V at *
      generalize wr.heap.size = ba at *
      obtain ⟨c0, c1, c2⟩ := act_rowT hrow
      have HBQ := Lib.hid hbq
      have HBo := Lib.hid (HBo.out.ext hx)
      have HX := Lib.hid (HX.out.trans hx)
      have HRW := Lib.hid hrow
      have HBN : Hid (ba ≠ bm ∧ ¬ FR q v ba) := Lib.hid ⟨by omega, fun h => by
        rcases h with h | h
        · omega
        · have := hbq.2.2 ba h
          omega⟩
      clear hrow hx hbq
      obtain ⟨kq, hkq⟩ : ∃ kq, ak % 4 = kq := ⟨_, rfl⟩
      have hkm : (ak : Int).tmod 4 = (kq : Int) := by rw [Int.tmod_eq_emod_of_nonneg (by omega)]; omega
      have hkw : IntKind.u8.wrap (kq : Int) = (kq : Int) := by rw [IntKind.wrap_u8]; omega
      have hk4 : kq < 4 := by omega
      clear hkq
      by_cases hq2 : kq < 2
      · have hk01 : kq = 0 ∨ kq = 1 := by omega
        have hTN := tnote_of (HBo.out.t.ext (Ext.refl V).drew) ai ar
        have HRN := Lib.hid (fun (W : World) (hm : Mod (fun k => k = bm) V.drew W) => rnote_of ((HBo.out.r.ext (Ext.refl V).drew).mod hm fun k hk => by have := HBo.out.bq; omega) ai ar)
        obtain ⟨L2, hL2⟩ : ∃ L2, noteT (N : Int) L ai ar = L2 := ⟨_, rfl⟩
        obtain ⟨er, her⟩ : ∃ er, errT (N : Int) L ai ar = er := ⟨_, rfl⟩
        rw [hL2, her] at hTN HRN
        have HTN := Lib.hid hTN
        have hS0 : V.drew.cell? ⟨ba, 1, none⟩ = some (.int .i64 ai) ∧ V.drew.cell? ⟨ba, 2, none⟩ = some (.int .i64 ar) := ⟨c1, c2⟩
        clear hTN hL2 her hq2 hk4
        rcases hk01 with rfl | rfl
        all_goals
          go_upto_region 16 with (fail)
          go_region_held3 (fun w' => w'.cell? ⟨ba, 1, none⟩ = some (.int .i64 ai) ∧ w'.cell? ⟨ba, 2, none⟩ = some (.int .i64 ar))
            (first | with_reducible exact hS0 | with_reducible exact hS2 | with_reducible exact hS1 | with_reducible assumption)
            (first
              | (go_at_call 11; ((with_reducible refine HTN.out.mono ?_); rintro e w3 ⟨rfl, hz3, hm3⟩; have hS1 := And.intro (mod_cellT hm3 HBN.out.1 hS0.1) (mod_cellT hm3 HBN.out.1 hS0.2); have HZ3 := Lib.hid hz3; have HM3 := Lib.hid hm3; clear hz3 hm3))
              | (go_at_call 12; ((with_reducible refine (HRN.out _ HM3.out).mono ?_); rintro e W ⟨rfl, v2, hr4, hb4, hm4⟩; have hS2 := And.intro (mod_cellT hm4 HBN.out.2 hS1.1) (mod_cellT hm4 HBN.out.2 hS1.2); have HR4 := Lib.hid hr4; have HB4 := Lib.hid hb4; have HM4 := Lib.hid hm4; clear hr4 hb4 hm4)))
          have HTAIL : Hid (BothT W w.heap.size p bm q N v2 L2) ∧ Hid (Ext w W) ∧ W.cell? ⟨ba, 1, none⟩ = some (.int .i64 ai) := by
            have hm3 : Mod (fun k => k = bm) V w3 := (Mod.of_ext (Ext.refl V).drew).trans HM3.out fun _ hi => .inl hi
            refine ⟨Lib.hid ⟨⟨(HB4.out.block p HBo.out.hq).trans HZ3.out.row, HZ3.out.map.mod HM4.out (FR_low HBo.out.r HBo.out.bq), HZ3.out.ok, HZ3.out.cnt⟩, HR4.out, HBo.out.h0, HBo.out.b0, HBo.out.hq, HBo.out.bq⟩, Lib.hid ?_, hS2.1⟩
            refine Below.trans (Below.mod HX.out hm3 HX.out.size (fun k hk => by have := HBo.out.b0; omega)) ?_
            exact ⟨HB4.out.os, HB4.out.tape, HB4.out.output, HB4.out.size, fun k hk => HB4.out.block k (by have := HBo.out.h0; have := HBo.out.hq; omega)⟩
          clear hS0 hS1 hS2 c0 c1 c2 HZ3 HM3 HR4 HB4 HM4 HTN HRN
          obtain ⟨HBW, HXW, hcW⟩ := HTAIL
          have HRBW := Lib.hid hcW
          have hS0 : W.drew.cell? ⟨ba, 1, none⟩ = some (.int .i64 ai) := hcW
          have HK1 : Hid (∀ V, Ext W.drew V → V.cell? ⟨ba, 1, none⟩ = some (.int .i64 ai)) := Lib.hid (fun V hV => ext_cellT hV hS0)
          have HC1 := Lib.hid (fun (V : World) (hV : Ext W.drew V) => tcount_of (HBW.out.t.ext ((Ext.refl W).drew.trans hV)) ai HWI.out)
          have HC2 := Lib.hid (fun (V : World) (hV : Ext W.drew V) => rcount_of (HBW.out.r.ext ((Ext.refl W).drew.trans hV)) ai)
          have HU1 := Lib.hid (fun (V : World) (hV : Ext W.drew V) => tupto_of (HBW.out.t.ext ((Ext.refl W).drew.trans hV)) ai HWI.out)
          have HU2 := Lib.hid (fun (V : World) (hV : Ext W.drew V) => rupto_of (HBW.out.r.ext ((Ext.refl W).drew.trans hV)) ai)
          have HU3 := Lib.hid (fun (V : World) (hV : Ext W.drew V) => tupto_of (HBW.out.t.ext ((Ext.refl W).drew.trans hV)) 0 (by decide))
          have HU4 := Lib.hid (fun (V : World) (hV : Ext W.drew V) => rupto_of (HBW.out.r.ext ((Ext.refl W).drew.trans hV)) 0)
          obtain ⟨cn, hcn⟩ : ∃ cn, cntT (N : Int) L2 ai = cn := ⟨_, rfl⟩
          obtain ⟨T1, hT1⟩ : ∃ T1, uptoT (N : Int) L2 ai = T1 := ⟨_, rfl⟩
          obtain ⟨T0, hT0⟩ : ∃ T0, uptoT (N : Int) L2 0 = T0 := ⟨_, rfl⟩
          rw [hcn] at HC1 HC2
          rw [hT1] at HU1 HU2
          rw [hT0] at HU3 HU4
          have HY : Hid (Ext W.drew W.drew) := Lib.hid (Ext.refl _)
          clear hcn hT1 hT0 hcW
          go_upto_region 21 with (fail)
          go_region_held3 (fun w' => w'.cell? ⟨ba, 1, none⟩ = some (.int .i64 ai))
            (first | with_reducible exact hS0 | with_reducible exact HK1.out _ HY.out | with_reducible assumption)
            (first
              | (go_at_call 15; ((with_reducible refine (HC1.out _ HY.out).mono ?_); rintro e w4 ⟨rfl, hx⟩; have HY := Lib.hid (Ext.trans HY.out hx); clear hx))
              | (go_at_call 16; ((with_reducible refine (HC2.out _ HY.out).mono ?_); rintro e w5 ⟨rfl, hx⟩; have HY := Lib.hid (Ext.trans HY.out hx); clear hx))
              | (go_at_call 17; ((with_reducible refine (HU1.out _ HY.out).mono ?_); rintro e w6 ⟨rfl, hx⟩; have HY := Lib.hid (Ext.trans HY.out hx); clear hx))
              | (go_at_call 18; ((with_reducible refine (HU2.out _ HY.out).mono ?_); rintro e w7 ⟨rfl, hx⟩; have HY := Lib.hid (Ext.trans HY.out hx); clear hx))
              | (go_at_call 17; ((with_reducible refine (HU3.out _ HY.out).mono ?_); rintro e w8 ⟨rfl, hx⟩; have HY := Lib.hid (Ext.trans HY.out hx); clear hx))
              | (go_at_call 18; ((with_reducible refine (HU4.out _ HY.out).mono ?_); rintro e w9 ⟨rfl, hx⟩; have HY := Lib.hid (Ext.trans HY.out hx); clear hx)))
          have HXn : Hid (Ext W _) := Lib.hid ((Ext.refl W).drew.trans HY.out)
          have HB2 := Lib.hid (HBW.out.ext HXn.out)
          have HX2 := Lib.hid (HXW.out.trans HXn.out)
          clear hS0
          go_wp2_with fail
          go_roundw
          case rel => exact ⟨i + 1, v2, L2, by omega, by go_num, HB2, HX2⟩
          case measure => simp [intOf]; omega
      · by_cases hk2 : kq = 2
        · subst hk2
          clear hq2 hk4
          go_upto_region 19 with (fail)
          go_wp2_with fail
          refine (tdrop_of HBo.out.t ai).mono ?_
          rintro e w3 ⟨rfl, hz3, hm3⟩
          have c1 := mod_cellT hm3 HBN.out.1 c1
          have HZ3 := Lib.hid hz3
          have HM3 := Lib.hid hm3
          have HR3 := Lib.hid (HBo.out.r.mod hm3 fun k hk => by have := HBo.out.bq; omega)
          clear hz3 hm3 c0 c2
          go_wp2_with fail
          refine (rdrop_of HR3.out ai).mono ?_
          rintro e W ⟨rfl, v2, hr4, hb4, hm4⟩
          have c1 := mod_cellT hm4 HBN.out.2 c1
          obtain ⟨L2, hL2⟩ : ∃ L2, dropT L ai = L2 := ⟨_, rfl⟩
          rw [hL2] at hr4 HZ3
          have HR4 := Lib.hid hr4
          have HB4 := Lib.hid hb4
          have HM4 := Lib.hid hm4
          have HTAIL : Hid (BothT W w.heap.size p bm q N v2 L2) ∧ Hid (Ext w W) ∧ W.cell? ⟨ba, 1, none⟩ = some (.int .i64 ai) := by
            refine ⟨Lib.hid ⟨⟨(HB4.out.block p HBo.out.hq).trans HZ3.out.row, HZ3.out.map.mod HM4.out (FR_low HBo.out.r HBo.out.bq), HZ3.out.ok, HZ3.out.cnt⟩, HR4.out, HBo.out.h0, HBo.out.b0, HBo.out.hq, HBo.out.bq⟩, Lib.hid ?_, c1⟩
            refine Below.trans (Below.mod HX.out HM3.out HX.out.size (fun k hk => by have := HBo.out.b0; omega)) ?_
            exact ⟨HB4.out.os, HB4.out.tape, HB4.out.output, HB4.out.size, fun k hk => HB4.out.block k (by have := HBo.out.h0; have := HBo.out.hq; omega)⟩
          clear hL2 hr4 hb4 hm4 HZ3 HM3 HR4 HB4 HM4 HR3 c1
          obtain ⟨HBW, HXW, hcW⟩ := HTAIL
          have HRBW := Lib.hid hcW
          have hS0 : W.drew.cell? ⟨ba, 1, none⟩ = some (.int .i64 ai) := hcW
          have HK1 : Hid (∀ V, Ext W.drew V → V.cell? ⟨ba, 1, none⟩ = some (.int .i64 ai)) := Lib.hid (fun V hV => ext_cellT hV hS0)
          have HC1 := Lib.hid (fun (V : World) (hV : Ext W.drew V) => tcount_of (HBW.out.t.ext ((Ext.refl W).drew.trans hV)) ai HWI.out)
          have HC2 := Lib.hid (fun (V : World) (hV : Ext W.drew V) => rcount_of (HBW.out.r.ext ((Ext.refl W).drew.trans hV)) ai)
          have HU1 := Lib.hid (fun (V : World) (hV : Ext W.drew V) => tupto_of (HBW.out.t.ext ((Ext.refl W).drew.trans hV)) ai HWI.out)
          have HU2 := Lib.hid (fun (V : World) (hV : Ext W.drew V) => rupto_of (HBW.out.r.ext ((Ext.refl W).drew.trans hV)) ai)
          have HU3 := Lib.hid (fun (V : World) (hV : Ext W.drew V) => tupto_of (HBW.out.t.ext ((Ext.refl W).drew.trans hV)) 0 (by decide))
          have HU4 := Lib.hid (fun (V : World) (hV : Ext W.drew V) => rupto_of (HBW.out.r.ext ((Ext.refl W).drew.trans hV)) 0)
          obtain ⟨cn, hcn⟩ : ∃ cn, cntT (N : Int) L2 ai = cn := ⟨_, rfl⟩
          obtain ⟨T1, hT1⟩ : ∃ T1, uptoT (N : Int) L2 ai = T1 := ⟨_, rfl⟩
          obtain ⟨T0, hT0⟩ : ∃ T0, uptoT (N : Int) L2 0 = T0 := ⟨_, rfl⟩
          rw [hcn] at HC1 HC2
          rw [hT1] at HU1 HU2
          rw [hT0] at HU3 HU4
          have HY : Hid (Ext W.drew W.drew) := Lib.hid (Ext.refl _)
          clear hcn hT1 hT0 hcW
          go_upto_region 21 with (fail)
          go_region_held3 (fun w' => w'.cell? ⟨ba, 1, none⟩ = some (.int .i64 ai))
            (first | with_reducible exact hS0 | with_reducible exact HK1.out _ HY.out | with_reducible assumption)
            (first
              | (go_at_call 15; ((with_reducible refine (HC1.out _ HY.out).mono ?_); rintro e w4 ⟨rfl, hx⟩; have HY := Lib.hid (Ext.trans HY.out hx); clear hx))
              | (go_at_call 16; ((with_reducible refine (HC2.out _ HY.out).mono ?_); rintro e w5 ⟨rfl, hx⟩; have HY := Lib.hid (Ext.trans HY.out hx); clear hx))
              | (go_at_call 17; ((with_reducible refine (HU1.out _ HY.out).mono ?_); rintro e w6 ⟨rfl, hx⟩; have HY := Lib.hid (Ext.trans HY.out hx); clear hx))
              | (go_at_call 18; ((with_reducible refine (HU2.out _ HY.out).mono ?_); rintro e w7 ⟨rfl, hx⟩; have HY := Lib.hid (Ext.trans HY.out hx); clear hx))
              | (go_at_call 17; ((with_reducible refine (HU3.out _ HY.out).mono ?_); rintro e w8 ⟨rfl, hx⟩; have HY := Lib.hid (Ext.trans HY.out hx); clear hx))
              | (go_at_call 18; ((with_reducible refine (HU4.out _ HY.out).mono ?_); rintro e w9 ⟨rfl, hx⟩; have HY := Lib.hid (Ext.trans HY.out hx); clear hx)))
          have HXn : Hid (Ext W _) := Lib.hid ((Ext.refl W).drew.trans HY.out)
          have HB2 := Lib.hid (HBW.out.ext HXn.out)
          have HX2 := Lib.hid (HXW.out.trans HXn.out)
          clear hS0
          go_wp2_with fail
          go_roundw
          case rel => exact ⟨i + 1, v2, L2, by omega, by go_num, HB2, HX2⟩
          case measure => simp [intOf]; omega
        · obtain rfl : kq = 3 := by omega
          clear hq2 hk2 hk4
          obtain ⟨W, hW⟩ : ∃ W, W = V := ⟨_, rfl⟩
          subst hW
          obtain ⟨v2, hv2⟩ : ∃ v2, v2 = v := ⟨_, rfl⟩
          subst hv2
          obtain ⟨L2, hL2⟩ : ∃ L2, L2 = L := ⟨_, rfl⟩
          subst hL2
          have HTAIL : Hid (BothT W w.heap.size p bm q N v2 L2) ∧ Hid (Ext w W) ∧ W.cell? ⟨ba, 1, none⟩ = some (.int .i64 ai) := ⟨HBo, HX, c1⟩
          clear c1 c2
          obtain ⟨HBW, HXW, hcW⟩ := HTAIL
          have HRBW := Lib.hid hcW
          have hS0 : W.drew.cell? ⟨ba, 1, none⟩ = some (.int .i64 ai) := hcW
          have HK1 : Hid (∀ V, Ext W.drew V → V.cell? ⟨ba, 1, none⟩ = some (.int .i64 ai)) := Lib.hid (fun V hV => ext_cellT hV hS0)
          have HC1 := Lib.hid (fun (V : World) (hV : Ext W.drew V) => tcount_of (HBW.out.t.ext ((Ext.refl W).drew.trans hV)) ai HWI.out)
          have HC2 := Lib.hid (fun (V : World) (hV : Ext W.drew V) => rcount_of (HBW.out.r.ext ((Ext.refl W).drew.trans hV)) ai)
          have HU1 := Lib.hid (fun (V : World) (hV : Ext W.drew V) => tupto_of (HBW.out.t.ext ((Ext.refl W).drew.trans hV)) ai HWI.out)
          have HU2 := Lib.hid (fun (V : World) (hV : Ext W.drew V) => rupto_of (HBW.out.r.ext ((Ext.refl W).drew.trans hV)) ai)
          have HU3 := Lib.hid (fun (V : World) (hV : Ext W.drew V) => tupto_of (HBW.out.t.ext ((Ext.refl W).drew.trans hV)) 0 (by decide))
          have HU4 := Lib.hid (fun (V : World) (hV : Ext W.drew V) => rupto_of (HBW.out.r.ext ((Ext.refl W).drew.trans hV)) 0)
          obtain ⟨cn, hcn⟩ : ∃ cn, cntT (N : Int) L2 ai = cn := ⟨_, rfl⟩
          obtain ⟨T1, hT1⟩ : ∃ T1, uptoT (N : Int) L2 ai = T1 := ⟨_, rfl⟩
          obtain ⟨T0, hT0⟩ : ∃ T0, uptoT (N : Int) L2 0 = T0 := ⟨_, rfl⟩
          rw [hcn] at HC1 HC2
          rw [hT1] at HU1 HU2
          rw [hT0] at HU3 HU4
          have HY : Hid (Ext W.drew W.drew) := Lib.hid (Ext.refl _)
          clear hcn hT1 hT0 hcW
          go_upto_region 21 with (fail)
          go_region_held3 (fun w' => w'.cell? ⟨ba, 1, none⟩ = some (.int .i64 ai))
            (first | with_reducible exact hS0 | with_reducible exact HK1.out _ HY.out | with_reducible assumption)
            (first
              | (go_at_call 15; ((with_reducible refine (HC1.out _ HY.out).mono ?_); rintro e w4 ⟨rfl, hx⟩; have HY := Lib.hid (Ext.trans HY.out hx); clear hx))
              | (go_at_call 16; ((with_reducible refine (HC2.out _ HY.out).mono ?_); rintro e w5 ⟨rfl, hx⟩; have HY := Lib.hid (Ext.trans HY.out hx); clear hx))
              | (go_at_call 17; ((with_reducible refine (HU1.out _ HY.out).mono ?_); rintro e w6 ⟨rfl, hx⟩; have HY := Lib.hid (Ext.trans HY.out hx); clear hx))
              | (go_at_call 18; ((with_reducible refine (HU2.out _ HY.out).mono ?_); rintro e w7 ⟨rfl, hx⟩; have HY := Lib.hid (Ext.trans HY.out hx); clear hx))
              | (go_at_call 17; ((with_reducible refine (HU3.out _ HY.out).mono ?_); rintro e w8 ⟨rfl, hx⟩; have HY := Lib.hid (Ext.trans HY.out hx); clear hx))
              | (go_at_call 18; ((with_reducible refine (HU4.out _ HY.out).mono ?_); rintro e w9 ⟨rfl, hx⟩; have HY := Lib.hid (Ext.trans HY.out hx); clear hx)))
          have HXn : Hid (Ext W _) := Lib.hid ((Ext.refl W).drew.trans HY.out)
          have HB2 := Lib.hid (HBW.out.ext HXn.out)
          have HX2 := Lib.hid (HXW.out.trans HXn.out)
          clear hS0
          go_wp2_with fail
          go_roundw
          case rel => exact ⟨i + 1, v2, L2, by omega, by go_num, HB2, HX2⟩
          case measure => simp [intOf]; omega
    · obtain rfl : i = m := by omega
      go_wp2_with fail
      go_ret
      exact ⟨rfl, HX.out⟩
end Go.Proofs.Ytmnldkfkcfnkdaa
