/-
  WalNil: a log that nobody made holds nothing; there is none of a disk that nobody made, or that is too small.
-/
import Derived.Test.YtmacebglfniegaaGreatDoorQ10
import Derived.Test.YtmacebglfniegaaGreatDoorQ11
import Derived.Test.YtmacebglfniegaaGreatDoorQ15
import Derived.Test.YtmacebglfniegaaGreatDoorQ16
import Derived.Deep.DeepCutAuto
namespace Go.Proofs.YtmacebglfniegaaGreatDoor
open Go Go.RowKit

/-- What WalNil keeps: the ballot, the entry, the list of logs, the log that nobody made. -/
structure NilS (w : World) (b0 b1 b2 b3 : Nat) (x y : Int) (e : Ent) : Prop where
  bal : w.heap[b0]? = some (.cells #[.int .i64 x, .int .i64 y] 38 (0, 0))
  ent : w.heap[b1]? = some (.cells #[.int .u8 (e.k : Int), .int .i64 e.cl, .int .i64 e.sq, .int .u8 (e.ok : Int), .string e.key, .string e.old, .string e.val] 42 (0, 0))
  log : w.heap[b2]? = some (.cells #[.pointer none, .pointer none, .int .i64 0, .int .i64 0, .int .i64 0] 75 (0, 0))
  lst : w.heap[b3]? = some (.cells #[.pointer none, .pointer (some ⟨b2, 0, none⟩)] 31 (0, 0))
theorem NilS.ext {w w' : World} {b0 b1 b2 b3 : Nat} {x y : Int} {e : Ent} (h : NilS w b0 b1 b2 b3 x y e) (k : Ext w w') : NilS w' b0 b1 b2 b3 x y e := ⟨keep_row k h.bal, keep_row k h.ent, keep_row k h.log, keep_row k h.lst⟩
theorem NilS.at_ {w : World} {b0 b1 b2 b3 : Nat} {x y : Int} {e : Ent} (h : NilS w b0 b1 b2 b3 x y e) (k : Nat) (hk : k < 2) : ∃ p, w.cell? ⟨b3, k, none⟩ = some (.pointer p) ∧ UnmadeW w p := by
  match k, hk with
  | 0, _ => exact ⟨none, cell_of_row w b3 0 _ _ _ h.lst, .inl rfl⟩
  | 1, _ => exact ⟨some ⟨b2, 0, none⟩, cell_of_row w b3 1 _ _ _ h.lst, .inr ⟨b2, rfl, cell_of_row w b2 0 _ _ _ h.log⟩⟩
abbrev NilC (w : World) (b0 b1 b3 b4 k : Nat) (x y : Int) (e : Ent) (p : Option Addr) : Prop := (w.cell? ⟨b4, 0, none⟩ = some (.int .i64 0) ∧ w.cell? ⟨b4, 1, none⟩ = some (.int .u8 0) ∧ w.cell? ⟨b4, 2, none⟩ = some (.int .i64 0) ∧ w.cell? ⟨b4, 3, none⟩ = some (.int .i64 0) ∧ w.cell? ⟨b4, 4, none⟩ = some (.int .u8 0) ∧ w.cell? ⟨b4, 5, none⟩ = some (.int .i64 0) ∧ w.cell? ⟨b4, 6, none⟩ = some (.int .i64 0) ∧ w.cell? ⟨b4, 7, none⟩ = some (.int .u8 0) ∧ w.cell? ⟨b4, 8, none⟩ = some (.string ⟨#[]⟩) ∧ w.cell? ⟨b4, 9, none⟩ = some (.string ⟨#[]⟩) ∧ w.cell? ⟨b4, 10, none⟩ = some (.string ⟨#[]⟩)) ∧ (w.cell? ⟨b0, 0, none⟩ = some (.int .i64 x) ∧ w.cell? ⟨b0, 1, none⟩ = some (.int .i64 y)) ∧ (w.cell? ⟨b1, 0, none⟩ = some (.int .u8 (e.k : Int)) ∧ w.cell? ⟨b1, 1, none⟩ = some (.int .i64 e.cl) ∧ w.cell? ⟨b1, 2, none⟩ = some (.int .i64 e.sq) ∧ w.cell? ⟨b1, 3, none⟩ = some (.int .u8 (e.ok : Int)) ∧ w.cell? ⟨b1, 4, none⟩ = some (.string e.key) ∧ w.cell? ⟨b1, 5, none⟩ = some (.string e.old) ∧ w.cell? ⟨b1, 6, none⟩ = some (.string e.val)) ∧ w.cell? ⟨b3, k, none⟩ = some (.pointer p)
theorem NilC.ext {w w' : World} {b0 b1 b3 b4 k : Nat} {x y : Int} {e : Ent} {p : Option Addr} (hx : Ext w w') (h : NilC w b0 b1 b3 b4 k x y e p) : NilC w' b0 b1 b3 b4 k x y e p := by
  obtain ⟨⟨a0, a1, a2, a3, a4, a5, a6, a7, a8, a9, a10⟩, ⟨c0, c1⟩, ⟨d0, d1, d2, d3, d4, d5, d6⟩, f⟩ := h
  exact ⟨⟨ext_of_cell hx a0, ext_of_cell hx a1, ext_of_cell hx a2, ext_of_cell hx a3, ext_of_cell hx a4, ext_of_cell hx a5, ext_of_cell hx a6, ext_of_cell hx a7, ext_of_cell hx a8, ext_of_cell hx a9, ext_of_cell hx a10⟩, ⟨ext_of_cell hx c0, ext_of_cell hx c1⟩, ⟨ext_of_cell hx d0, ext_of_cell hx d1, ext_of_cell hx d2, ext_of_cell hx d3, ext_of_cell hx d4, ext_of_cell hx d5, ext_of_cell hx d6⟩, ext_of_cell hx f⟩
set_option maxRecDepth 100000 in
set_option maxHeartbeats 1600000 in
theorem walNil_law (i r c z : Int) (x y : Int) (e : Ent) (w : World) (_ : (Lit.int .i64 i).wf = true) (_ : (Lit.int .i64 r).wf = true) (_ : (Lit.int .i64 c).wf = true) (_ : (Lit.int .i64 z).wf = true) (he : e.Wf) (hL : LaidF w ∧ LaidS w) :
    Calls Tryz.prog 4 #[.int .i64 i, .int .i64 r, .int .i64 c, .int .i64 z, .agg #[.int .i64 x, .int .i64 y], .agg #[.int .u8 (e.k : Int), .int .i64 e.cl, .int .i64 e.sq, .int .u8 (e.ok : Int), .string e.key, .string e.old, .string e.val]] w fun r' w' => r' = .returned (.bool true) ∧ Below w.heap.size w w' := by
  show Calls Tryz.prog 4 #[.int .i64 i, .int .i64 r, .int .i64 c, .int .i64 z, .agg #[.int .i64 x, .int .i64 y], .agg #[.int .u8 (e.k : Int), .int .i64 e.cl, .int .i64 e.sq, .int .u8 (e.ok : Int), .string e.key, .string e.old, .string e.val]] w fun r' w' => r' = .returned (.bool true) ∧ Ext w w'
  have hok : e.ok < 256 := he.ok
  obtain ⟨q, hq, hwq⟩ := wrap_mod z 155 (by omega) (by omega)
  have hwq : wrap64 ((IntKind.u64.wrap z).tmod 155) = (q : Int) := hwq
  have HN := Lib.hid (fun V => new_pdk (q + 1) V (by omega) (by omega))
  rw [show ((q + 1 : Nat) : Int) = 1 + (q : Int) by omega] at HN
  have HQ := Lib.hid hq
  have hxa := (Ext.refl w).alloc (.cells #[.int .i64 x, .int .i64 y] 38)
  have hx2 := hxa.alloc (.cells #[.int .u8 (e.k : Int), .int .i64 e.cl, .int .i64 e.sq, .int .u8 (e.ok : Int), .string e.key, .string e.old, .string e.val] 42)
  have hb0 := keep_row ((Ext.refl (w.alloc (.cells #[.int .i64 x, .int .i64 y] 38))).alloc (.cells #[.int .u8 (e.k : Int), .int .i64 e.cl, .int .i64 e.sq, .int .u8 (e.ok : Int), .string e.key, .string e.old, .string e.val] 42)) (heap_alloc_new w (.cells #[.int .i64 x, .int .i64 y] 38))
  have hb1 := heap_alloc2_new w (.cells #[.int .i64 x, .int .i64 y] 38) (.cells #[.int .u8 (e.k : Int), .int .i64 e.cl, .int .i64 e.sq, .int .u8 (e.ok : Int), .string e.key, .string e.old, .string e.val] 42)
  have HX := Lib.hid hx2
  have HB := Lib.hid (And.intro hb0 hb1)
  have HL := Lib.hid hL
  have HOK := Lib.hid hok
  clear he hxa hx2 hb0 hb1 hL hok
  go_enter Tryz.func4, Tryz.ntmps4
  go_wp2_with fail
  obtain ⟨b0, hb0⟩ : ∃ b0, w.heap.size = b0 := ⟨_, rfl⟩
  have hs0 : ((w.alloc (.cells #[.int .i64 x, .int .i64 y] 38)).alloc (.cells #[.int .u8 (e.k : Int), .int .i64 e.cl, .int .i64 e.sq, .int .u8 (e.ok : Int), .string e.key, .string e.old, .string e.val] 42)).heap.size = b0 + 1 + 1 := by rw [← hb0]; simp
  rw [hb0] at HB ⊢
  generalize (w.alloc (.cells #[.int .i64 x, .int .i64 y] 38)).alloc (.cells #[.int .u8 (e.k : Int), .int .i64 e.cl, .int .i64 e.sq, .int .u8 (e.ok : Int), .string e.key, .string e.old, .string e.val] 42) = V0 at HX HB hs0 ⊢
  have hra := heap_alloc_new V0 (.cells (actW e) 52)
  have hxa := (Ext.refl V0).alloc (.cells (actW e) 52)
  rw [hs0] at hra
  refine (wgreat_one (b0 + 1 + 1) e (V0.alloc (.cells (actW e) 52)) hra).mono ?_
  rintro r' w1 ⟨b, rfl, hx⟩
  have HX1 := Lib.hid (HX.out.trans (hxa.trans hx))
  have HB1 := Lib.hid (And.intro (keep_row (hxa.trans hx) HB.out.1) (keep_row (hxa.trans hx) HB.out.2))
  clear hra hxa hx hs0 hb0
  cases b with
  | true =>
    go_wp2_with fail
    go_ret
    exact ⟨rfl, HX1.out⟩
  | false =>
    go_wp2_with fail
    have hx2 := ((Ext.refl w1).alloc (.cells #[.pointer none, .pointer none, .int .i64 0, .int .i64 0, .int .i64 0] 75)).alloc (.cells #[.pointer none, .pointer (some ⟨w1.heap.size, 0, none⟩)] 31)
    have hl := keep_row ((Ext.refl (w1.alloc (.cells #[.pointer none, .pointer none, .int .i64 0, .int .i64 0, .int .i64 0] 75))).alloc (.cells #[.pointer none, .pointer (some ⟨w1.heap.size, 0, none⟩)] 31)) (heap_alloc_new w1 (.cells #[.pointer none, .pointer none, .int .i64 0, .int .i64 0, .int .i64 0] 75))
    have hl2 := heap_alloc2_new w1 (.cells #[.pointer none, .pointer none, .int .i64 0, .int .i64 0, .int .i64 0] 75) (.cells #[.pointer none, .pointer (some ⟨w1.heap.size, 0, none⟩)] 31)
    obtain ⟨b2, hb2⟩ : ∃ b2, w1.heap.size = b2 := ⟨_, rfl⟩
    have HX2 := Lib.hid (HX1.out.trans hx2)
    have HS := Lib.hid (NilS.mk (keep_row hx2 HB1.out.1) (keep_row hx2 HB1.out.2) hl hl2)
    rw [hb2] at HX2 HS ⊢
    generalize (w1.alloc (.cells #[.pointer none, .pointer none, .int .i64 0, .int .i64 0, .int .i64 0] 75)).alloc (.cells #[.pointer none, .pointer (some ⟨b2, 0, none⟩)] 31) = V2 at HX2 HS ⊢
    clear hx2 hl hl2 hb2 HX1 HB1
    go_loopw [15] (fun v wr => ∃ k : Nat, k ≤ 2 ∧ v = .int .i64 (k : Int) ∧ Hid (Ext w wr) ∧ Hid (NilS wr b0 (b0 + 1) b2 (b2 + 1) x y e)) (fun v _ => 2 - (intOf v).toNat)
    case atStart => exact ⟨0, by omega, rfl, HX2, HS⟩
    case round =>
      obtain ⟨k, hk, rfl, HX, HS⟩ := hrel
      by_cases hlt : k < 2
      · obtain ⟨p, hcp, hup⟩ := HS.out.at_ k hlt
        have HU := Lib.hid hup
        have HCP := Lib.hid hcp
        have hk2 : (k : Int) < 2 := by omega
        clear hup
        go_wp2_with fail
        refine (wget_nil HU.out i).mono ?_
        rintro r' w2 ⟨rfl, hx⟩
        have HXk := Lib.hid hx
        have hcp := ext_of_cell HXk.out HCP.out
        clear hx
        have hl3 : b2 + 1 < w2.heap.size := World.block_lt_of_cell? w2 _ hcp
        go_wp2_with fail
        have hx3 := (Ext.refl w2).alloc (.cells #[.int .i64 0, .int .u8 0, .int .i64 0, .int .i64 0, .int .u8 0, .int .i64 0, .int .i64 0, .int .u8 0, .string ⟨#[]⟩, .string ⟨#[]⟩, .string ⟨#[]⟩] 78)
        have hr4 := heap_alloc_new w2 (.cells #[.int .i64 0, .int .u8 0, .int .i64 0, .int .i64 0, .int .u8 0, .int .i64 0, .int .i64 0, .int .u8 0, .string ⟨#[]⟩, .string ⟨#[]⟩, .string ⟨#[]⟩] 78)
        have HX3 := Lib.hid (HXk.out.trans hx3)
        generalize w2.alloc (.cells #[.int .i64 0, .int .u8 0, .int .i64 0, .int .i64 0, .int .u8 0, .int .i64 0, .int .i64 0, .int .u8 0, .string ⟨#[]⟩, .string ⟨#[]⟩, .string ⟨#[]⟩] 78) = V3 at hx3 hr4 HX3 ⊢
        generalize w2.heap.size = b4 at hr4 ⊢
        clear hcp hl3 hx3
        refine (wclass_nil (HU.out.ext HX3.out) i).mono ?_
        rintro r' w4 ⟨rfl, hx⟩
        have hr4 := keep_row hx hr4
        have HX3 := Lib.hid (HX3.out.trans hx)
        have hcp := ext_of_cell HX3.out HCP.out
        clear hx
        go_wp2_with fail
        refine (wall_nil (HU.out.ext HX3.out)).mono ?_
        rintro r' w5 ⟨rfl, hx⟩
        have HR4 := Lib.hid (keep_row hx hr4)
        have HX3 := Lib.hid (HX3.out.trans hx)
        have HS5 := Lib.hid (HS.out.ext HX3.out)
        have hS0 : NilC w5.drew b0 (b0 + 1) (b2 + 1) b4 k x y e p := ⟨(free11W HR4.out).1, ⟨cell_of_row _ _ 0 _ _ _ HS5.out.bal, cell_of_row _ _ 1 _ _ _ HS5.out.bal⟩, ⟨cell_of_row _ _ 0 _ _ _ HS5.out.ent, cell_of_row _ _ 1 _ _ _ HS5.out.ent, cell_of_row _ _ 2 _ _ _ HS5.out.ent, cell_of_row _ _ 3 _ _ _ HS5.out.ent, cell_of_row _ _ 4 _ _ _ HS5.out.ent, cell_of_row _ _ 5 _ _ _ HS5.out.ent, cell_of_row _ _ 6 _ _ _ HS5.out.ent⟩, ext_of_cell (Below.drew HX3.out) HCP.out⟩
        have hneq := neq_rep
        have hxw : Ext w wr := HX.out
        have HP1 : Hid (∀ V, Hid (Ext w5.drew V) → Calls Tryz.prog 13 #[.pointer p, .int .i64 i, .agg #[.int .i64 x, .int .i64 y], .agg #[.int .u8 (e.k : Int), .int .i64 e.cl, .int .i64 e.sq, .int .u8 (e.ok : Int), .string e.key, .string e.old, .string e.val]] V fun r w' => r = .returned (.int .i64 1) ∧ Ext V w') := Lib.hid fun V hV => wput_nil (HU.out.ext (HX3.out.trans ((Below.drew (Ext.refl w5)).trans hV.out))) (HL.out.1.ext (hxw.trans (HX3.out.trans ((Below.drew (Ext.refl w5)).trans hV.out)))).a.o i x y e HOK.out
        have HP2 : Hid (∀ V, Hid (Ext w5.drew V) → Calls Tryz.prog 15 #[.pointer p, .int .i64 i] V fun r w' => r = .returned (.int .i64 1) ∧ V = w') := Lib.hid fun V hV => wcut_no (HU.out.ext (HX3.out.trans ((Below.drew (Ext.refl w5)).trans hV.out))) i
        have HP3 : Hid (∀ V, Hid (Ext w5.drew V) → Calls Tryz.prog 17 #[.pointer p] V fun r w' => r = .returned (.int .i64 0) ∧ V = w') := Lib.hid fun V hV => wsnap_no (HU.out.ext (HX3.out.trans ((Below.drew (Ext.refl w5)).trans hV.out)))
        have HR0 := Lib.hid (Ext.refl w5.drew)
        clear hx hr4 hcp
        go_upto_region 11 with (fail)
        go_region_held3 (fun w' => NilC w' b0 (b0 + 1) (b2 + 1) b4 k x y e p)
          (first | with_reducible exact hS0 | with_reducible exact hS1 | with_reducible assumption)
          (first
            | (go_at_call 13; ((with_reducible refine (HP1.out _ HR0).mono ?_); rintro r' w6 ⟨rfl, hx⟩; have HX6 := Lib.hid hx; have hS1 := NilC.ext hx hS0; clear hx))
            | (go_at_call 15; ((with_reducible refine (HP2.out _ HX6).mono ?_); rintro r' w7 ⟨rfl, rfl⟩))
            | (go_at_call 17; ((with_reducible refine (HP3.out _ HX6).mono ?_); rintro r' w7 ⟨rfl, rfl⟩)))
        have hx56 : Ext wr w6 := HX3.out.trans ((Below.drew (Ext.refl w5)).trans HX6.out)
        have HE6 : Hid (Ext w w6) := Lib.hid (hxw.trans hx56)
        have HS6 := Lib.hid (HS.out.ext hx56)
        clear hx56 hxw hS0 hS1 hneq
        go_wp2_with fail
        go_roundw
        case rel => exact ⟨k + 1, by omega, by go_num, HE6, HS6⟩
        case measure => simp [intOf]; omega
      · obtain rfl : k = 2 := by omega
        go_wp2_with fail
        refine (HN.out wr).mono ?_
        rintro r' w2 ⟨d, rfl, hp, hx⟩
        have HP := Lib.hid hp
        have hxw : Ext w wr := HX.out
        have HX2 : Hid (Ext w w2) := Lib.hid (hxw.trans hx)
        clear hp hx hxw
        go_wp2_with fail
        refine (wopen_0 none 0 r c 0 (fun V hV => (size_no none V (.inl rfl)).mono fun _ _ hh => ⟨hh.1, hh.2⟩) rfl).mono ?_
        rintro r' w3 ⟨rfl, hx⟩
        have HX3 : Hid (Ext w w3) := Lib.hid (HX2.out.trans hx)
        have HP := Lib.hid (HP.out.ext hx)
        clear hx
        go_wp2_with fail
        have hE : openE (DM.new (q + 1)) r c 0 = 2 := if_pos (by rw [new_size]; have := HQ.out; omega)
        have ho := wopen_no HP.out (HL.out.1.ext HX3.out) r c 0 (by rw [hE]; decide)
        rw [hE] at ho
        refine ho.mono ?_
        rintro r' w4 ⟨rfl, hx⟩
        have HX4 : Hid (Ext w w4) := Lib.hid (HX3.out.trans hx)
        clear hx ho hE
        go_wp2_with fail
        go_ret
        exact ⟨rfl, HX4.out⟩
end Go.Proofs.YtmacebglfniegaaGreatDoor
