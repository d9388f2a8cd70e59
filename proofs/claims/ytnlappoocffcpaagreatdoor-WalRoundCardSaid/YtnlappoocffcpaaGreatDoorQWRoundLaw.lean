/-
  WalRound: a log goes round: what was put last of every place is told.
-/
import Derived.Test.YtnlappoocffcpaaGreatDoorQ35
import Derived.Deep.DeepCutAuto
namespace Go.Proofs.YtnlappoocffcpaaGreatDoor
set_option maxRecDepth 100000
open Go Go.RowKit
theorem openE_new {c : Int} (hc : 1 ≤ c ∧ c ≤ 1099511627776) : openE (DM.new 156) 0 c 0 = 0 := by
  have hup : (DM.new 156).up = true := CD.new.up
  have hsz : (DM.new 156).size = 156 := CD.new.b.size
  have h1 : inI 1 c 1099511627776 = true := by unfold inI; simp; omega
  unfold openE
  rw [if_neg (by omega), if_neg (by decide), if_neg (by rw [h1]; decide), if_neg (by decide), if_neg (by rw [hup]; decide)]
theorem rpt_neq_self (ix : Int) (st : Nat) (x y : Int) (k : Nat) (cl sq : Int) (ok : Nat) (key old val : ByteArray) (w : World) :
    (binOp .neq 86 (.agg #[.int .i64 ix, .int .u8 (st : Int), .int .i64 x, .int .i64 y, .int .u8 (k : Int), .int .i64 cl, .int .i64 sq, .int .u8 (ok : Int), .string key, .string old, .string val]) (.agg #[.int .i64 ix, .int .u8 (st : Int), .int .i64 x, .int .i64 y, .int .u8 (k : Int), .int .i64 cl, .int .i64 sq, .int .u8 (ok : Int), .string key, .string old, .string val])).run Tryz.prog w = .ok (.bool false) w := by
  have hf : Tryz.prog.stoodInHeld 86 = false := by kernel_rfl
  have hu := Tryz.underlying86
  have hu1 := Tryz.underlying38
  have hu2 := Tryz.underlying42
  have hu3 := Tryz.underlying40
  rw [run_neq_struct, run_equalIn_agg _ _ _ _ _ (by rw [Program.fieldsOf, hu]) hf, Program.fieldsOf, hu]
  simp [Op.eqFields, go_sem]
set_option maxRecDepth 100000 in
set_option maxHeartbeats 1600000 in
theorem walRound_law (a c : Int) (w : World) (ha : (Lit.int .u8 a).wf = true) (_ : (Lit.int .i64 c).wf = true) (hL : LaidF w ∧ LaidS w) :
    Calls Tryz.prog 6 #[.int .u8 a, .int .i64 c] w fun r' w' => r' = .returned (.bool true) ∧ Ext w w' := by
  have ha2 : 0 ≤ a ∧ a ≤ 255 := by
    have : IntKind.u8.min ≤ a ∧ a ≤ IntKind.u8.max := by simpa [Lit.wf, go_sem] using ha
    exact this
  obtain ⟨A, rfl⟩ : ∃ A : Nat, a = (A : Int) := ⟨a.toNat, by omega⟩
  have hA : A ≤ 255 := by omega
  have hmod : IntKind.u8.wrap ((A : Int).tmod 20) = ((A % 20 : Nat) : Int) := by
    rw [Int.tmod_eq_emod_of_nonneg (by omega)]
    simp [IntKind.wrap, go_sem]
    omega
  have HL := Lib.hid hL
  clear ha ha2 hL
  go_enter Tryz.func6, Tryz.ntmps6
  go_wp2_with fail
  refine (wawake_any w w (Ext.refl w) HL.out).mono ?_
  rintro e w1 ⟨rfl, hx⟩
  have HX := Lib.hid hx
  clear hx
  by_cases hc1 : c < 1
  · go_wp2_with fail
    go_ret
    exact ⟨rfl, HX.out⟩
  by_cases hc2 : 1099511627776 < c
  · go_wp2_with fail
    go_ret
    exact ⟨rfl, HX.out⟩
  go_wp2_with fail
  refine (wnew_dk HX.out).mono ?_
  rintro e w2 ⟨d, F1, rfl, hk⟩
  have HK := Lib.hid hk
  clear hk
  go_wp2_with fail
  have hst : Calls Tryz.prog 10 #[.pointer (some ⟨d, 0, none⟩), .int .i64 0, .int .i64 c, .int .i64 0] w2 fun e w' => ∃ g, e = .returned (.tuple #[.pointer (some ⟨g, 0, none⟩), .int .i64 0]) ∧ LD w w' d F1 g 0 0 c (DM.new 156) := open_ld HK.out HL.out.1 0 c 0 (openE_new ⟨hc1, hc2⟩)
  refine hst.mono ?_
  rintro e w3 ⟨g, rfl, hk⟩
  have HK := Lib.hid hk
  clear hk hst
  go_wp2_with fail
  obtain ⟨M, hM, hM1, hM2⟩ : ∃ M : Nat, (1 : Int) + ((A % 20 : Nat) : Int) = (M : Int) ∧ 1 ≤ M ∧ M ≤ 20 := ⟨1 + A % 20, by omega, by omega, by omega⟩
  have HE := Lib.hid (Ext.refl w3)
  go_loopw [10] (fun i wr => ∃ (j : Nat) (F : Nat → Prop) (m : DM), j ≤ M ∧ i = .int .i64 (j : Int) ∧ Hid (LD w wr d F g (8 * (j - 2)) 0 c m) ∧ Hid (RInv m (8 * j))) (fun i _ => 20 - (intOf i).toNat)
  case atStart => exact ⟨0, F1, _, by omega, by simp, HK, Lib.hid RInv.new⟩
  case round =>
    obtain ⟨j, F, m, hj, rfl, HK, HI⟩ := hrel
    by_cases hlt : j < M
    · go_wp2_with fail
      rw [show decide ((j : Int) < 1 + (A : Int) % 20) = true from decide_eq_true (by omega)]
      go_loopw [11] (fun i wq => ∃ (k : Nat) (F : Nat → Prop) (m : DM), k ≤ 8 ∧ i = .int .i64 ((8 * j + 1 + k : Nat) : Int) ∧ Hid (LD w wq d F g (8 * (j - 2)) 0 c m) ∧ Hid (RInv m (8 * j + k))) (fun i _ => 200 - (intOf i).toNat)
      case atStart => exact ⟨0, F, m, by omega, by go_num, HK, HI⟩
      case round =>
        obtain ⟨k, F, m, hk, rfl, HK, HI⟩ := hrel
        by_cases hk8 : k < 8
        · obtain ⟨m', hp, hr'⟩ := HI.out.put (by omega) ⟨hc1, hc2⟩
          have hfew : m.waits.length + 20 ≤ 1000000 := by rw [HI.out.cd.b.waits]; simp
          have hE9 : ((8 * j + k + 1 : Nat) : Int) = ((8 * j + 1 + k : Nat) : Int) := by omega
          rw [hE9] at hp
          have hpa := (CD.putA HI.out.cd (s := 8 * (j - 2)) (i := ((8 * j + 1 + k : Nat) : Int)) (x := ((8 * j + 1 + k : Nat) : Int)) (y := 0) (e := noopE) (by omega) (balE_iff.2 (by omega)) noop_ok 0 c).trans hp
          obtain ⟨z, hz⟩ : ∃ z : Int, ((8 * j + 1 + k : Nat) : Int) = z := ⟨_, rfl⟩
          have hz1 : 1 ≤ z ∧ z ≤ 1000 := by omega
          have hz2 : z ≤ 8 * (j : Int) + 8 := by omega
          rw [hz] at hpa ⊢
          have HP := Lib.hid (And.intro hpa (And.intro hr' hfew))
          have HZ := Lib.hid hz
          clear hp hpa hr' hfew hE9 hz
          go_wp2_with fail
          refine (wnoop_any _).mono ?_
          rintro e w4 ⟨rfl, hx⟩
          have HK := Lib.hid (HK.out.ext hx)
          clear hx
          go_wp2_with fail
          have hst : Calls Tryz.prog 12 #[.pointer (some ⟨g, 0, none⟩), .int .i64 z, .agg #[.int .i64 z, .int .i64 0], .agg #[.int .u8 1, .int .i64 0, .int .i64 0, .int .u8 0, .string ByteArray.empty, .string ByteArray.empty, .string ByteArray.empty]] w4 fun e w' => e = .returned (.int .i64 0) ∧ ∃ F', LD w w' d F' g (8 * (j - 2)) 0 c m' := put_ld HK.out HL.out.1 HL.out.2 (by omega) ⟨hc1, hc2⟩ (by omega) z z 0 noopE (by decide) HP.out.2.2 0 HP.out.1
          refine hst.mono ?_
          rintro e w5 ⟨rfl, F', hk⟩
          clear hst
          go_wp2_with fail
          go_roundw
          case rel =>
            exact ⟨k + 1, F', m', by omega, by rw [← HZ.out]; go_num, Lib.hid hk, Lib.hid HP.out.2.1⟩
          case measure => simp [intOf]; omega
        · obtain rfl : k = 8 := by omega
          by_cases hj2 : 2 ≤ j
          · go_wp2_with fail
            have hst : Calls Tryz.prog 14 #[.pointer (some ⟨g, 0, none⟩), .int .i64 (8 * (j : Int) - 8)] wr fun e w' => e = .returned (.int .i64 0) ∧ LD w w' d F g (8 * j - 8) 0 c m := by
              have hq := cut_ld2 HK.out (8 * j - 8) (by omega) (by omega)
              rw [show (((8 * j - 8 : Nat)) : Int) = 8 * (j : Int) - 8 by omega] at hq
              exact hq.mono fun e w' h => ⟨h.1, h.2.1⟩
            refine hst.mono ?_
            rintro e w5 ⟨rfl, hk⟩
            clear hst
            go_wp2_with fail
            go_roundw
            case rel => exact ⟨j + 1, F, m, by omega, by go_num, Lib.hid (by rw [show 8 * (j + 1 - 2) = 8 * j - 8 by omega]; exact hk), Lib.hid HI.out⟩
            case measure => simp [intOf]; omega
          · go_wp2_with fail
            go_roundw
            case rel => exact ⟨j + 1, F, m, by omega, by go_num, Lib.hid (by rw [show 8 * (j + 1 - 2) = 8 * (j - 2) by omega]; exact HK.out), Lib.hid HI.out⟩
            case measure => simp [intOf]; omega
    · obtain rfl : j = M := by omega
      go_wp2_with fail
      have hup : m.up = true := HI.out.cd.up
      refine (all_ld HK.out HL.out.1 HL.out.2 (by omega) hup (by rw [HI.out.cd.b.waits]; simp)).mono ?_
      rw [HI.out.all_ (by omega) (by omega) 24 (Nat.le_refl _), show min 24 (8 * j - 8 * (j - 2)) = 8 * j - 8 * (j - 2) by omega]
      rintro e w4 ⟨v, rfl, hrow, hx⟩
      have HK := Lib.hid (HK.out.ext hx)
      obtain ⟨T, hT⟩ : ∃ T, ((List.range (8 * j - 8 * (j - 2))).map fun k => (⟨((8 * (j - 2) + 1 + k : Nat) : Int), 2, ((8 * (j - 2) + 1 + k : Nat) : Int), 0, noopE⟩ : Rpt)) = T := ⟨_, rfl⟩
      have hTl : T.length = 8 * j - 8 * (j - 2) := by rw [← hT]; simp
      have hTg : ∀ k, k < T.length → T[k]? = some (⟨((8 * (j - 2) + 1 + k : Nat) : Int), 2, ((8 * (j - 2) + 1 + k : Nat) : Int), 0, noopE⟩ : Rpt) := fun k hk => by
        rw [← hT, List.getElem?_map, List.getElem?_range (by omega)]
        rfl
      rw [hT] at hrow
      rcases told_row hrow with ⟨_, h0⟩ | ⟨gr, cap, rfl, _, _, hcl⟩
      · rw [h0] at hTl
        simp at hTl
        omega
      have HCL := Lib.hid (And.intro hTg hcl)
      clear hx hrow hT hTg hcl hup
      go_wp2_with fail
      refine (snap_ld HK.out).mono ?_
      rintro e w5 ⟨rfl, rfl⟩
      have hlen : (8 * j - 8 * (j - 2) : Nat) = (8 * (1 + (A : Int) % 20) - ((8 * (j - 2) : Nat) : Int)) := by omega
      obtain ⟨L, hL⟩ : ∃ L : Nat, 8 * j - 8 * (j - 2) = L := ⟨_, rfl⟩
      rw [hL] at hlen hTl ⊢
      go_wp2_with fail
      go_loopw [14] (fun i wq => ∃ k : Nat, k ≤ L ∧ i = .int .i64 (k : Int) ∧ Hid (Ext w4 wq)) (fun i _ => 100 - (intOf i).toNat)
      case atStart => exact ⟨0, by omega, by simp, Lib.hid (Ext.refl _)⟩
      case round =>
        obtain ⟨k, hk, rfl, HX4⟩ := hrel
        by_cases hkl : k < L
        · go_wp2_with fail
          refine (snap_ld (HK.out.ext HX4.out)).mono ?_
          rintro e w6 ⟨rfl, rfl⟩
          go_upto_region 29 with (fail)
          have hc : ∀ i, i < 11 → wr.drew.cell? ⟨gr, k * 11 + i, none⟩ = (rptC ⟨((8 * (j - 2) + 1 + k : Nat) : Int), 2, ((8 * (j - 2) + 1 + k : Nat) : Int), 0, noopE⟩)[i]? := fun i hi => by
            have h := HCL.out.2 k _ (HCL.out.1 k (by omega)) i hi
            rw [← h]
            exact (Below.drew HX4.out).cell (p := ⟨gr, k * 11 + i, none⟩) (World.block_lt_of_cell? w4 _ (h.trans (List.getElem?_eq_getElem (by rw [rptC_len]; exact hi))))
          obtain ⟨z, hz⟩ : ∃ z : Int, 8 * ((j - 2 : Nat) : Int) + 1 + (k : Int) = z := ⟨_, rfl⟩
          have hzc : ((8 * (j - 2) + 1 + k : Nat) : Int) = z := by omega
          rw [hz]
          rw [hzc] at hc
          have h0 : wr.drew.cell? ⟨gr, k * 11, none⟩ = some (.int .i64 z) := hc 0 (by omega)
          have h1 : wr.drew.cell? ⟨gr, k * 11 + 1, none⟩ = some (.int .u8 2) := hc 1 (by omega)
          have h2 : wr.drew.cell? ⟨gr, k * 11 + 2, none⟩ = some (.int .i64 z) := hc 2 (by omega)
          have h3 : wr.drew.cell? ⟨gr, k * 11 + 3, none⟩ = some (.int .i64 0) := hc 3 (by omega)
          have h4 : wr.drew.cell? ⟨gr, k * 11 + 4, none⟩ = some (.int .u8 1) := hc 4 (by omega)
          have h5 : wr.drew.cell? ⟨gr, k * 11 + 5, none⟩ = some (.int .i64 0) := hc 5 (by omega)
          have h6 : wr.drew.cell? ⟨gr, k * 11 + 6, none⟩ = some (.int .i64 0) := hc 6 (by omega)
          have h7 : wr.drew.cell? ⟨gr, k * 11 + 7, none⟩ = some (.int .u8 0) := hc 7 (by omega)
          have h8 : wr.drew.cell? ⟨gr, k * 11 + 8, none⟩ = some (.string ByteArray.empty) := hc 8 (by omega)
          have h9 : wr.drew.cell? ⟨gr, k * 11 + 9, none⟩ = some (.string ByteArray.empty) := hc 9 (by omega)
          have h10 : wr.drew.cell? ⟨gr, k * 11 + 10, none⟩ = some (.string ByteArray.empty) := hc 10 (by omega)
          have hS0 := And.intro h0 (And.intro h1 (And.intro h2 (And.intro h3 (And.intro h4 (And.intro h5 (And.intro h6 (And.intro h7 (And.intro h8 (And.intro h9 h10)))))))))
          have hq := fun W => rpt_neq_self z 2 z 0 1 0 0 0 ByteArray.empty ByteArray.empty ByteArray.empty W
          clear hc hz hzc
          go_region_held3 (fun w' => w'.cell? ⟨gr, k * 11, none⟩ = some (.int .i64 z) ∧ w'.cell? ⟨gr, k * 11 + 1, none⟩ = some (.int .u8 2) ∧ w'.cell? ⟨gr, k * 11 + 2, none⟩ = some (.int .i64 z) ∧ w'.cell? ⟨gr, k * 11 + 3, none⟩ = some (.int .i64 0) ∧ w'.cell? ⟨gr, k * 11 + 4, none⟩ = some (.int .u8 1) ∧ w'.cell? ⟨gr, k * 11 + 5, none⟩ = some (.int .i64 0) ∧ w'.cell? ⟨gr, k * 11 + 6, none⟩ = some (.int .i64 0) ∧ w'.cell? ⟨gr, k * 11 + 7, none⟩ = some (.int .u8 0) ∧ w'.cell? ⟨gr, k * 11 + 8, none⟩ = some (.string ByteArray.empty) ∧ w'.cell? ⟨gr, k * 11 + 9, none⟩ = some (.string ByteArray.empty) ∧ w'.cell? ⟨gr, k * 11 + 10, none⟩ = some (.string ByteArray.empty))
            (first | with_reducible exact hS0 | with_reducible exact hS1 | with_reducible assumption)
            (first
              | (go_at_call 36; ((with_reducible refine (wnoop_any _).mono ?_); rintro e' w' ⟨rfl, hx⟩; have HX9 := Lib.hid hx; have hS1 := And.intro (ext_of_cell hx h0) (And.intro (ext_of_cell hx h1) (And.intro (ext_of_cell hx h2) (And.intro (ext_of_cell hx h3) (And.intro (ext_of_cell hx h4) (And.intro (ext_of_cell hx h5) (And.intro (ext_of_cell hx h6) (And.intro (ext_of_cell hx h7) (And.intro (ext_of_cell hx h8) (And.intro (ext_of_cell hx h9) (ext_of_cell hx h10)))))))))); clear hx)))
          go_wp2_with fail
          go_roundw
          case rel => exact ⟨k + 1, by omega, by go_num, Lib.hid (HX4.out.trans ((Below.drew (Ext.refl wr)).trans HX9.out))⟩
          case measure => simp [intOf]; omega
        · obtain rfl : k = L := by omega
          go_wp2_with fail
          go_ret
          exact ⟨rfl, (HK.out.ext HX4.out).dk.bel⟩
end Go.Proofs.YtnlappoocffcpaaGreatDoor
