/-
  The contract of the statements' faults at a log's disk.
-/
import Derived.Test.YtnlappoocffcpaaGreatDoorQ00
import Derived.Test.YtnlappoocffcpaaGreatDoorQ16
import Derived.Test.YtnlappoocffcpaaGreatDoorQ18
import Derived.Test.YtnlappoocffcpaaGreatDoorQ19
import Derived.Test.YtnlappoocffcpaaGreatDoorQ23
import Derived.Test.YtnlappoocffcpaaGreatDoorQ35
import Derived.Test.YtnlappoocffcpaaGreatDoorQ36
import Derived.Test.YtnlappoocffcpaaGreatDoorQ37
import Derived.Deep.DeepCutAuto
import Derived.Deep.MidRow
import Derived.RangeFuncNested
import Derived.RangeFuncBound
import Derived.RangeFuncCalls
import Derived.RangeFuncLeaves
import Derived.Shelf.Abstract
import Derived.Shelf.RegionOpen
import Derived.WalkKit
import Derived.OwnWalkIn
import Derived.TacticsInMore
import Derived.LoopNIn
import Derived.LoopIn
namespace Go.Proofs.YtnlappoocffcpaaGreatDoor
set_option maxRecDepth 100000
section
open Go Go.RowKit
theorem flt_cells {w : World} {g o j n c B : Nat} {A : Option Addr} {l : List FltA} (h : Ls FltA.cells 3 w B A n c l) (hj : j < n) (hA : A = some ⟨g, o, none⟩) : ∃ a : FltA, l[j]? = some a ∧
    w.cell? ⟨g, o + j * 3, none⟩ = some (.int .u8 (a.k : Nat)) ∧ w.cell? ⟨g, o + j * 3 + 1, none⟩ = some (.int .u16 (a.s : Nat)) ∧ w.cell? ⟨g, o + j * 3 + 2, none⟩ = some (.int .u16 (a.n : Nat)) := by
  obtain ⟨g', o', a, h1, _, h2, h3⟩ := h.at_ hj
  rw [hA] at h1
  injection h1 with h1
  injection h1 with h1 h4
  subst h1 h4
  exact ⟨a, h2, h3 0 _ rfl, h3 1 _ rfl, h3 2 _ rfl⟩
set_option maxHeartbeats 400000 in
theorem hurt_ld {w0 w : World} {d : Nat} {F : Nat → Prop} {g s : Nat} {r inc : Int} {m0 m : DM} (h : LD w0 w d F g s r inc m) (hf : Flt m0 m) (A : Option Addr) (n c : Nat) (l : List FltA) (hl : Ls FltA.cells 3 w0 w0.heap.size A n c l) (ho : ∀ a ∈ l, a.Wf) :
    Calls Tryz.prog 27 #[.pointer (some ⟨d, 0, none⟩), .slice A n c] w fun e w' => (∃ v, e = .returned v) ∧ ∃ F' m', LD w0 w' d F' g s r inc m' ∧ Flt m0 m' ∧ Kept F F' w w' := by
  have HA := Lib.hid hl
  have HO := Lib.hid ho
  have HD := Lib.hid h
  have HF := Lib.hid hf
  have hcap := hl.cap
  have hmost := hl.most
  have hn := Nat.zero_le n
  clear hl ho h hf
  go_enter Tryz.func27, Tryz.ntmps27
  go_wp2_with fail
  go_loopw [4] (fun i wr => ∃ (k : Nat) (G : Nat → Prop) (m : DM), k ≤ n ∧ i = .int .i64 k ∧ Hid (LD w0 wr d G g s r inc m) ∧ Hid (Flt m0 m) ∧ Hid (Kept F G w wr)) (fun i _ => n - (intOf i).toNat)
  case atStart => exact ⟨0, F, m, Nat.zero_le _, rfl, HD, HF, Lib.hid (Kept.refl F w)⟩
  case round =>
    obtain ⟨k, G, m, hkn, rfl, HD, HF, HKP⟩ := hrel
    by_cases hlt : k < n
    · obtain ⟨q, o, a0, rfl, hg, ha0, _⟩ := HA.out.at_ hlt
      obtain ⟨a, ha, c0, c1, c2⟩ := flt_cells (HA.out.below HD.out.dk.bel) hlt rfl
      have hw := HO.out a (List.mem_of_getElem? ha)
      obtain ⟨kk, ss, nn⟩ := a
      have hk8 : kk < 256 := hw.k
      have hs16 : ss < 65536 := hw.s
      have hn16 : nn < 65536 := hw.n
      dsimp only at c0 c1 c2
      clear ha0 ha hw
      have d0 : wr.drew.cell? ⟨q, o + k * 3, none⟩ = some (.int .u8 (kk : Int)) := c0
      have d1 : wr.drew.cell? ⟨q, o + k * 3 + 1, none⟩ = some (.int .u16 (ss : Int)) := c1
      have d2 : wr.drew.cell? ⟨q, o + k * 3 + 2, none⟩ = some (.int .u16 (nn : Int)) := c2
      have HD1 := Lib.hid (HD.out.ext (Below.drew (Ext.refl wr)))
      have h3 : kk % 3 = 0 ∨ kk % 3 = 1 ∨ kk % 3 = 2 := by omega
      have ht : (kk : Int).tmod 3 = ((kk % 3 : Nat) : Int) := by rw [Int.tmod_eq_emod_of_nonneg (by omega)]; omega
      rcases h3 with h3 | h3 | h3
      · rw [h3] at ht
        clear h3
        go_wp2_with fail
        go_region
        go_wp2_with fail
        generalize (ss : Int) % 156 = S
        refine (flip_pd HD1.out.dk.disk S (nn : Int) (by omega)).mono ?_
        rintro e w5 hq
        obtain ⟨rfl, hst⟩ := Outc.step hq
        obtain ⟨F', hk, hkp⟩ := HD1.out.stepK hst
        have HD5 := Lib.hid hk
        have HKP5 := Lib.hid (HKP.out.trans ((Kept.of_ext (Below.drew (Ext.refl wr))).trans hkp))
        clear hq hst hk hkp
        go_wp2_with fail
        go_roundw
        case rel => exact ⟨k + 1, F', _, by omega, by go_num, HD5, Lib.hid (HF.out.flip _ _), HKP5⟩
        case measure => simp [intOf]; omega
      · rw [h3] at ht
        clear h3
        go_wp2_with fail
        go_region
        go_wp2_with fail
        generalize (ss : Int) % 156 = S
        refine (lose_pd HD1.out.dk.disk S).mono ?_
        rintro e w5 hq
        obtain ⟨rfl, hst⟩ := Outc.step hq
        obtain ⟨F', hk, hkp⟩ := HD1.out.stepK hst
        have HD5 := Lib.hid hk
        have HKP5 := Lib.hid (HKP.out.trans ((Kept.of_ext (Below.drew (Ext.refl wr))).trans hkp))
        clear hq hst hk hkp
        go_wp2_with fail
        go_roundw
        case rel => exact ⟨k + 1, F', _, by omega, by go_num, HD5, Lib.hid (HF.out.lose _), HKP5⟩
        case measure => simp [intOf]; omega
      · rw [h3] at ht
        clear h3
        go_wp2_with fail
        go_region
        go_wp2_with fail
        generalize (ss : Int) % 156 = S
        generalize (nn : Int) % 156 = N
        refine (stray_pd HD1.out.dk.disk S N).mono ?_
        rintro e w5 hq
        obtain ⟨rfl, hst⟩ := Outc.step hq
        obtain ⟨F', hk, hkp⟩ := HD1.out.stepK hst
        have HD5 := Lib.hid hk
        have HKP5 := Lib.hid (HKP.out.trans ((Kept.of_ext (Below.drew (Ext.refl wr))).trans hkp))
        clear hq hst hk hkp
        go_wp2_with fail
        go_roundw
        case rel => exact ⟨k + 1, F', _, by omega, by go_num, HD5, Lib.hid (HF.out.stray _ _), HKP5⟩
        case measure => simp [intOf]; omega
    · go_wp2_with fail
      go_end0
      exact ⟨⟨_, rfl⟩, G, m, HD.out, HF.out, HKP.out⟩
end
section
open Go Go.RowKit Go.Shelf
attribute [local go_sem] Oper.semAt_some
end
section
open Go Go.RowKit Go.Shelf
attribute [local go_sem] Oper.semAt_some
end
section
open Go Go.RowKit Go.Shelf
attribute [local go_sem] Oper.semAt_some
end
section
open Go Go.RowKit
section
variable {w0 w : World} {d : Nat} {F : Nat → Prop} {g s : Nat} {r inc : Int} {m : DM}
end
end
section
open Go Go.RowKit
set_option maxHeartbeats 800000 in
theorem wnoop_any (w : World) : Calls Tryz.prog 36 #[] w fun e w' => e = .returned (.agg #[.int .u8 1, .int .i64 0, .int .i64 0, .int .u8 0, .string ByteArray.empty, .string ByteArray.empty, .string ByteArray.empty]) ∧ Ext w w' := by
  go_enter Tryz.func36, Tryz.ntmps36
  go_wp2_with fail
  refine bodyPost_ret (v := .agg #[.int .u8 1, .int .i64 0, .int .i64 0, .int .u8 0, .string ByteArray.empty, .string ByteArray.empty, .string ByteArray.empty]) (by simp [results, Tryz.results36, go_sem]; rfl) rfl ⟨rfl, (Ext.refl w).alloc _⟩
theorem cut_ld2 {w0 w : World} {d : Nat} {F : Nat → Prop} {g s : Nat} {r inc : Int} {m : DM} (h : LD w0 w d F g s r inc m) (n : Nat) (h1 : s ≤ n) (h2 : n ≤ 1099511627752) :
    Calls Tryz.prog 14 #[.pointer (some ⟨g, 0, none⟩), .int .i64 (n : Int)] w fun e w' => e = .returned (.int .i64 0) ∧ LD w0 w' d F g n r inc m ∧ Mod (fun k => k = g) w w' := by
  have hc : cutB s n = true := by unfold cutB inI; simp; omega
  have hq := wcut_of h.log (n : Int)
  rw [if_pos hc, if_pos hc, Int.toNat_natCast] at hq
  refine hq.mono fun e w' ⟨he, hl, hm⟩ => ⟨he, ⟨h.dk.mod hm (fun k hk hh => h.off (hh ▸ hk)) (fun k hk => hk ▸ h.low), hl, h.off, h.low⟩, hm⟩
theorem wnew_dk {w0 w : World} (hx : Ext w0 w) : Calls Tryz.prog 8 #[.int .i64 156] w fun e w' => ∃ d F, e = .returned (.tuple #[.pointer (some ⟨d, 0, none⟩), .int .i64 0]) ∧ DK w0 w' d F (DM.new 156) :=
  (new_pdk 156 w (by omega) (by omega)).mono fun e w' ⟨d, h1, h2, h3⟩ => ⟨d, _, h1, h2, fun k hk => Nat.le_trans hx.size hk.1, hx.trans h3⟩
theorem rpt_eql_self (ix : Int) (st : Nat) (x y : Int) (k : Nat) (cl sq : Int) (ok : Nat) (key old val : ByteArray) (w : World) :
    (binOp .eql 86 (.agg #[.int .i64 ix, .int .u8 (st : Int), .int .i64 x, .int .i64 y, .int .u8 (k : Int), .int .i64 cl, .int .i64 sq, .int .u8 (ok : Int), .string key, .string old, .string val]) (.agg #[.int .i64 ix, .int .u8 (st : Int), .int .i64 x, .int .i64 y, .int .u8 (k : Int), .int .i64 cl, .int .i64 sq, .int .u8 (ok : Int), .string key, .string old, .string val])).run Tryz.prog w = .ok (.bool true) w := by
  have hf : Tryz.prog.stoodInHeld 86 = false := by kernel_rfl
  have hu := Tryz.underlying86
  have hu1 := Tryz.underlying38
  have hu2 := Tryz.underlying42
  have hu3 := Tryz.underlying40
  rw [run_eql_struct, run_equalIn_agg _ _ _ _ _ (by rw [Program.fieldsOf, hu]) hf, Program.fieldsOf, hu]
  simp [Op.eqFields, go_sem]
abbrev AwC (w : World) (b c : Nat) : Prop := w.cell? ⟨b, 0, none⟩ = some (.int .i64 1) ∧ w.cell? ⟨b, 1, none⟩ = some (.int .u8 2) ∧ w.cell? ⟨b, 2, none⟩ = some (.int .i64 1) ∧ w.cell? ⟨b, 3, none⟩ = some (.int .i64 0) ∧ w.cell? ⟨b, 4, none⟩ = some (.int .u8 1) ∧ w.cell? ⟨b, 5, none⟩ = some (.int .i64 0) ∧ w.cell? ⟨b, 6, none⟩ = some (.int .i64 0) ∧ w.cell? ⟨b, 7, none⟩ = some (.int .u8 0) ∧ w.cell? ⟨b, 8, none⟩ = some (.string ByteArray.empty) ∧ w.cell? ⟨b, 9, none⟩ = some (.string ByteArray.empty) ∧ w.cell? ⟨b, 10, none⟩ = some (.string ByteArray.empty) ∧ w.cell? ⟨c, 0, none⟩ = some (.int .i64 25) ∧ w.cell? ⟨c, 1, none⟩ = some (.int .u8 1) ∧ w.cell? ⟨c, 2, none⟩ = some (.int .i64 0) ∧ w.cell? ⟨c, 3, none⟩ = some (.int .i64 0) ∧ w.cell? ⟨c, 4, none⟩ = some (.int .u8 0) ∧ w.cell? ⟨c, 5, none⟩ = some (.int .i64 0) ∧ w.cell? ⟨c, 6, none⟩ = some (.int .i64 0) ∧ w.cell? ⟨c, 7, none⟩ = some (.int .u8 0) ∧ w.cell? ⟨c, 8, none⟩ = some (.string ByteArray.empty) ∧ w.cell? ⟨c, 9, none⟩ = some (.string ByteArray.empty) ∧ w.cell? ⟨c, 10, none⟩ = some (.string ByteArray.empty)
theorem AwC.of {w : World} {b c : Nat} (ha : w.heap[b]? = some (.cells #[.int .i64 1, .int .u8 2, .int .i64 1, .int .i64 0, .int .u8 1, .int .i64 0, .int .i64 0, .int .u8 0, .string ByteArray.empty, .string ByteArray.empty, .string ByteArray.empty] 86 (0, 0))) (hc : w.heap[c]? = some (.cells #[.int .i64 25, .int .u8 1, .int .i64 0, .int .i64 0, .int .u8 0, .int .i64 0, .int .i64 0, .int .u8 0, .string ByteArray.empty, .string ByteArray.empty, .string ByteArray.empty] 86 (0, 0))) : AwC w b c := ⟨cell_of_row w b 0 _ _ _ ha, cell_of_row w b 1 _ _ _ ha, cell_of_row w b 2 _ _ _ ha, cell_of_row w b 3 _ _ _ ha, cell_of_row w b 4 _ _ _ ha, cell_of_row w b 5 _ _ _ ha, cell_of_row w b 6 _ _ _ ha, cell_of_row w b 7 _ _ _ ha, cell_of_row w b 8 _ _ _ ha, cell_of_row w b 9 _ _ _ ha, cell_of_row w b 10 _ _ _ ha, cell_of_row w c 0 _ _ _ hc, cell_of_row w c 1 _ _ _ hc, cell_of_row w c 2 _ _ _ hc, cell_of_row w c 3 _ _ _ hc, cell_of_row w c 4 _ _ _ hc, cell_of_row w c 5 _ _ _ hc, cell_of_row w c 6 _ _ _ hc, cell_of_row w c 7 _ _ _ hc, cell_of_row w c 8 _ _ _ hc, cell_of_row w c 9 _ _ _ hc, cell_of_row w c 10 _ _ _ hc⟩
theorem AwC.ext {w w' : World} {b c : Nat} (hx : Ext w w') (h : AwC w b c) : AwC w' b c := by
  obtain ⟨a0, a1, a2, a3, a4, a5, a6, a7, a8, a9, a10, a11, a12, a13, a14, a15, a16, a17, a18, a19, a20, a21⟩ := h
  exact ⟨ext_of_cell hx a0, ext_of_cell hx a1, ext_of_cell hx a2, ext_of_cell hx a3, ext_of_cell hx a4, ext_of_cell hx a5, ext_of_cell hx a6, ext_of_cell hx a7, ext_of_cell hx a8, ext_of_cell hx a9, ext_of_cell hx a10, ext_of_cell hx a11, ext_of_cell hx a12, ext_of_cell hx a13, ext_of_cell hx a14, ext_of_cell hx a15, ext_of_cell hx a16, ext_of_cell hx a17, ext_of_cell hx a18, ext_of_cell hx a19, ext_of_cell hx a20, ext_of_cell hx a21⟩
set_option maxHeartbeats 1600000 in
theorem wawake_any (w0 w : World) (hx : Ext w0 w) (hL : LaidF w0 ∧ LaidS w0) : Calls Tryz.prog 24 #[] w fun e w' => e = .returned (.bool true) ∧ Ext w0 w' := by
  obtain ⟨m1, e1, c1, z1, r1, z2, z3, r3, z4⟩ := awake_plain
  have hfew : m1.waits.length ≤ 1000000 := by rw [c1.b.waits]; simp
  have HL := Lib.hid hL
  have HX := Lib.hid hx
  have HP := Lib.hid e1
  have HZ := Lib.hid (And.intro z1 (And.intro r1 (And.intro z2 (And.intro z3 (And.intro r3 (And.intro z4 hfew))))))
  clear hL hx e1 c1 z1 r1 z2 z3 r3 z4 hfew
  go_enter Tryz.func24, Tryz.ntmps24
  go_wp2_with fail
  refine (wnew_dk HX.out).mono ?_
  rintro e w1 ⟨d, F1, rfl, hk⟩
  have HK := Lib.hid hk
  clear hk
  go_wp2_with fail
  have hst : Calls Tryz.prog 10 #[.pointer (some ⟨d, 0, none⟩), .int .i64 3, .int .i64 1, .int .i64 0] w1 fun e w' => ∃ g, e = .returned (.tuple #[.pointer (some ⟨g, 0, none⟩), .int .i64 0]) ∧ LD w0 w' d F1 g 0 3 1 (DM.new 156) := open_ld HK.out HL.out.1 3 1 0 (by decide)
  refine hst.mono ?_
  rintro e w2 ⟨g, rfl, hk⟩
  have HK := Lib.hid hk
  clear hk hst
  go_wp2_with fail
  refine (wnoop_any _).mono ?_
  rintro e w3 ⟨rfl, hx⟩
  have HK := Lib.hid (HK.out.ext hx)
  clear hx
  go_wp2_with fail
  have hst : Calls Tryz.prog 12 #[.pointer (some ⟨g, 0, none⟩), .int .i64 1, .agg #[.int .i64 1, .int .i64 0], .agg #[.int .u8 1, .int .i64 0, .int .i64 0, .int .u8 0, .string ByteArray.empty, .string ByteArray.empty, .string ByteArray.empty]] w3 fun e w' => e = .returned (.int .i64 0) ∧ ∃ F', LD w0 w' d F' g 0 3 1 m1 := put_ld HK.out HL.out.1 HL.out.2 (by omega) (by omega) (by omega) 1 1 0 noopE (by decide) (by decide) 0 HP.out
  refine hst.mono ?_
  rintro e w4 ⟨rfl, F2, hk⟩
  have HK := Lib.hid hk
  clear hk hst
  go_wp2_with fail
  have hst : Calls Tryz.prog 29 #[.pointer (some ⟨g, 0, none⟩), .int .i64 1] w4 fun e w' => e = .returned (.tuple #[.agg #[.int .i64 1, .int .u8 2, .int .i64 1, .int .i64 0, .int .u8 1, .int .i64 0, .int .i64 0, .int .u8 0, .string ByteArray.empty, .string ByteArray.empty, .string ByteArray.empty], .int .i64 0]) ∧ Ext w4 w' := get_ld HK.out HL.out.1 HL.out.2 (by omega) 1 HZ.out.2.2.2.2.2.2 _ 0 HZ.out.2.1 HZ.out.1
  refine hst.mono ?_
  rintro e w5 ⟨rfl, hx⟩
  have HK := Lib.hid (HK.out.ext hx)
  clear hx hst
  go_wp2_with fail
  have hra := heap_alloc_new w5 (.cells #[.int .i64 1, .int .u8 2, .int .i64 1, .int .i64 0, .int .u8 1, .int .i64 0, .int .i64 0, .int .u8 0, .string ByteArray.empty, .string ByteArray.empty, .string ByteArray.empty] 86)
  have hlt : g < w5.heap.size := HK.out.log.lt
  have hk := HK.out.ext ((Ext.refl w5).alloc (.cells #[.int .i64 1, .int .u8 2, .int .i64 1, .int .i64 0, .int .u8 1, .int .i64 0, .int .i64 0, .int .u8 0, .string ByteArray.empty, .string ByteArray.empty, .string ByteArray.empty] 86))
  generalize w5.alloc (.cells #[.int .i64 1, .int .u8 2, .int .i64 1, .int .i64 0, .int .u8 1, .int .i64 0, .int .i64 0, .int .u8 0, .string ByteArray.empty, .string ByteArray.empty, .string ByteArray.empty] 86) = V5 at hra hk ⊢
  generalize w5.heap.size = b5 at hra hlt ⊢
  have HA := Lib.hid hra
  have HK := Lib.hid hk
  have HG := Lib.hid hlt
  clear hra hk hlt
  obtain ⟨R8, hR8⟩ : ∃ R8, m1.lkR 0 3 25 = R8 := ⟨_, rfl⟩
  have hst : Calls Tryz.prog 29 #[.pointer (some ⟨g, 0, none⟩), .int .i64 25] V5 fun e w' => e = .returned (.tuple #[.agg #[.int .i64 R8.ix, .int .u8 (R8.st : Int), .int .i64 R8.x, .int .i64 R8.y, .int .u8 (R8.e.k : Int), .int .i64 R8.e.cl, .int .i64 R8.e.sq, .int .u8 (R8.e.ok : Int), .string R8.e.key, .string R8.e.old, .string R8.e.val], .int .i64 2]) ∧ Ext V5 w' := get_ld HK.out HL.out.1 HL.out.2 (by omega) 25 HZ.out.2.2.2.2.2.2 R8 2 hR8 HZ.out.2.2.1
  refine hst.mono ?_
  rintro e w6 ⟨rfl, hx⟩
  have HK := Lib.hid (HK.out.ext hx)
  have HA := Lib.hid (keep_row hx HA.out)
  clear hx hst hR8
  go_wp2_with fail
  have hx := (Ext.refl w6).alloc (.cells #[.int .i64 R8.ix, .int .u8 (R8.st : Int), .int .i64 R8.x, .int .i64 R8.y, .int .u8 (R8.e.k : Int), .int .i64 R8.e.cl, .int .i64 R8.e.sq, .int .u8 (R8.e.ok : Int), .string R8.e.key, .string R8.e.old, .string R8.e.val] 86)
  have HK := Lib.hid (HK.out.ext hx)
  have HA := Lib.hid (keep_row hx HA.out)
  clear hx
  generalize w6.alloc (.cells #[.int .i64 R8.ix, .int .u8 (R8.st : Int), .int .i64 R8.x, .int .i64 R8.y, .int .u8 (R8.e.k : Int), .int .i64 R8.e.cl, .int .i64 R8.e.sq, .int .u8 (R8.e.ok : Int), .string R8.e.key, .string R8.e.old, .string R8.e.val] 86) = V6 at HK HA ⊢
  have hst : Calls Tryz.prog 14 #[.pointer (some ⟨g, 0, none⟩), .int .i64 8] V6 fun e w' => e = .returned (.int .i64 0) ∧ (∃ F', LD w0 w' d F' g 8 3 1 m1) ∧ Mod (fun k => k = g) V6 w' := (cut_ld2 HK.out 8 (by omega) (by omega)).mono fun e w' h => ⟨h.1, ⟨_, h.2.1⟩, h.2.2⟩
  refine hst.mono ?_
  rintro e w7 ⟨rfl, ⟨F3, hk⟩, hm⟩
  have HK := Lib.hid hk
  have HA := Lib.hid (heap_mod HA.out hm (by have := HG.out; omega))
  clear hk hm hst
  go_wp2_with fail
  have hst : Calls Tryz.prog 29 #[.pointer (some ⟨g, 0, none⟩), .int .i64 25] w7 fun e w' => e = .returned (.tuple #[.agg #[.int .i64 25, .int .u8 1, .int .i64 0, .int .i64 0, .int .u8 0, .int .i64 0, .int .i64 0, .int .u8 0, .string ByteArray.empty, .string ByteArray.empty, .string ByteArray.empty], .int .i64 0]) ∧ Ext w7 w' := get_ld HK.out HL.out.1 HL.out.2 (by omega) 25 HZ.out.2.2.2.2.2.2 _ 0 HZ.out.2.2.2.2.1 HZ.out.2.2.2.1
  refine hst.mono ?_
  rintro e w8 ⟨rfl, hx⟩
  have HK := Lib.hid (HK.out.ext hx)
  have HA := Lib.hid (keep_row hx HA.out)
  clear hx hst
  go_wp2_with fail
  have hra := heap_alloc_new w8 (.cells #[.int .i64 25, .int .u8 1, .int .i64 0, .int .i64 0, .int .u8 0, .int .i64 0, .int .i64 0, .int .u8 0, .string ByteArray.empty, .string ByteArray.empty, .string ByteArray.empty] 86)
  have hx := (Ext.refl w8).alloc (.cells #[.int .i64 25, .int .u8 1, .int .i64 0, .int .i64 0, .int .u8 0, .int .i64 0, .int .i64 0, .int .u8 0, .string ByteArray.empty, .string ByteArray.empty, .string ByteArray.empty] 86)
  have HK := Lib.hid (HK.out.ext hx)
  have HA := Lib.hid (keep_row hx HA.out)
  clear hx
  generalize w8.alloc (.cells #[.int .i64 25, .int .u8 1, .int .i64 0, .int .i64 0, .int .u8 0, .int .i64 0, .int .i64 0, .int .u8 0, .string ByteArray.empty, .string ByteArray.empty, .string ByteArray.empty] 86) = V8 at hra HK HA ⊢
  generalize w8.heap.size = b10 at hra ⊢
  have HC := Lib.hid hra
  clear hra
  obtain ⟨R9, hR9⟩ : ∃ R9, m1.lkR 8 3 8 = R9 := ⟨_, rfl⟩
  have hst : Calls Tryz.prog 29 #[.pointer (some ⟨g, 0, none⟩), .int .i64 8] V8 fun e w' => e = .returned (.tuple #[.agg #[.int .i64 R9.ix, .int .u8 (R9.st : Int), .int .i64 R9.x, .int .i64 R9.y, .int .u8 (R9.e.k : Int), .int .i64 R9.e.cl, .int .i64 R9.e.sq, .int .u8 (R9.e.ok : Int), .string R9.e.key, .string R9.e.old, .string R9.e.val], .int .i64 2]) ∧ Ext V8 w' := get_ld HK.out HL.out.1 HL.out.2 (by omega) 8 HZ.out.2.2.2.2.2.2 R9 2 hR9 HZ.out.2.2.2.2.2.1
  refine hst.mono ?_
  rintro e w9 ⟨rfl, hx⟩
  have HK := Lib.hid (HK.out.ext hx)
  have HA := Lib.hid (keep_row hx HA.out)
  have HC := Lib.hid (keep_row hx HC.out)
  clear hx hst hR9
  go_upto_region 12 with (fail)
  have hx := (Ext.refl w9).alloc (.cells #[.int .i64 R9.ix, .int .u8 (R9.st : Int), .int .i64 R9.x, .int .i64 R9.y, .int .u8 (R9.e.k : Int), .int .i64 R9.e.cl, .int .i64 R9.e.sq, .int .u8 (R9.e.ok : Int), .string R9.e.key, .string R9.e.old, .string R9.e.val] 86)
  have HK := Lib.hid (HK.out.ext hx)
  have HA := Lib.hid (keep_row hx HA.out)
  have HC := Lib.hid (keep_row hx HC.out)
  clear hx
  generalize w9.alloc (.cells #[.int .i64 R9.ix, .int .u8 (R9.st : Int), .int .i64 R9.x, .int .i64 R9.y, .int .u8 (R9.e.k : Int), .int .i64 R9.e.cl, .int .i64 R9.e.sq, .int .u8 (R9.e.ok : Int), .string R9.e.key, .string R9.e.old, .string R9.e.val] 86) = V9 at HK HA HC ⊢
  have hq1 := fun W => rpt_eql_self 1 2 1 0 1 0 0 0 ByteArray.empty ByteArray.empty ByteArray.empty W
  have hq2 := fun W => rpt_eql_self 25 1 0 0 0 0 0 0 ByteArray.empty ByteArray.empty ByteArray.empty W
  have hS0 : AwC V9.drew b5 b10 := AwC.of HA.out HC.out
  go_region_held3 (fun w' => AwC w' b5 b10)
    (first | with_reducible exact hS0 | with_reducible exact hS1 | with_reducible assumption)
    (first
      | (go_at_call 36; ((with_reducible refine (wnoop_any _).mono ?_); rintro e' w' ⟨rfl, hx⟩; have HX9 := Lib.hid hx; have hS1 := AwC.ext hx hS0; clear hx)))
  go_wp2_with fail
  go_ret
  exact ⟨rfl, (HK.out.ext ((Below.drew (Ext.refl V9)).trans HX9.out)).dk.bel⟩
end
end Go.Proofs.YtnlappoocffcpaaGreatDoor
