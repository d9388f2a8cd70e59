/-
 SnapPlays: whatever is done to a shelf and its disk, each call answers, and the shelf tells, what the chapter says; the bytes stay.
-/
import Derived.Test.YtmpaocpgoihliaaGreatDoorP00
import Derived.Test.YtmpaocpgoihliaaGreatDoorP38
import Derived.Deep.DeepCutAuto
import Derived.Deep.CutBlock
import Derived.Deep.RegionHeld3
namespace Go.Proofs.YtmpaocpgoihliaaGreatDoor
set_option maxRecDepth 100000
open Go Go.RowKit
theorem eqlS_nils (w : World) : (binOp .eql 76 (.pointer none) (.pointer none)).run Tryz.prog w = .ok (.bool true) w := by
 first | kernel_rfl | rfl | simp [binOp, go_sem]
theorem c15S {w : World} {g : Nat} {t : TypeId} {x0 x1 x2 x3 x4 x5 x6 x7 x8 x9 x10 x11 x12 x13 x14 : Value} (h : w.heap[g]? = some (.cells #[x0, x1, x2, x3, x4, x5, x6, x7, x8, x9, x10, x11, x12, x13, x14] t (0, 0))) : w.cell? ⟨g, 0, none⟩ = some x0 ∧ w.cell? ⟨g, 1, none⟩ = some x1 ∧ w.cell? ⟨g, 2, none⟩ = some x2 ∧ w.cell? ⟨g, 3, none⟩ = some x3 ∧ w.cell? ⟨g, 4, none⟩ = some x4 ∧ w.cell? ⟨g, 5, none⟩ = some x5 ∧ w.cell? ⟨g, 6, none⟩ = some x6 ∧ w.cell? ⟨g, 7, none⟩ = some x7 ∧ w.cell? ⟨g, 8, none⟩ = some x8 ∧ w.cell? ⟨g, 9, none⟩ = some x9 ∧ w.cell? ⟨g, 10, none⟩ = some x10 ∧ w.cell? ⟨g, 11, none⟩ = some x11 ∧ w.cell? ⟨g, 12, none⟩ = some x12 ∧ w.cell? ⟨g, 13, none⟩ = some x13 ∧ w.cell? ⟨g, 14, none⟩ = some x14 :=
 ⟨cell_of_row w g 0 _ _ _ h, cell_of_row w g 1 _ _ _ h, cell_of_row w g 2 _ _ _ h, cell_of_row w g 3 _ _ _ h, cell_of_row w g 4 _ _ _ h, cell_of_row w g 5 _ _ _ h, cell_of_row w g 6 _ _ _ h, cell_of_row w g 7 _ _ _ h, cell_of_row w g 8 _ _ _ h, cell_of_row w g 9 _ _ _ h, cell_of_row w g 10 _ _ _ h, cell_of_row w g 11 _ _ _ h, cell_of_row w g 12 _ _ _ h, cell_of_row w g 13 _ _ _ h, cell_of_row w g 14 _ _ _ h⟩
theorem opny_size {w w' : World} {d g : Nat} {r inc : Int} {F : Nat → Prop} {m : DM} {s : ShM} (k : OpnY w d g r inc F m s w') : w.heap.size ≤ w'.heap.size := by
 obtain ⟨_, _, _, _, _, hm, _⟩ := k
 exact hm.size
theorem ropn_size {w w' : World} {e y : Nat} {r inc : Int} {p : Nat → Nat} {m : DM} {s : ShM} (k : ROpn w e y r inc p m s w') : w.heap.size ≤ w'.heap.size := by
 obtain ⟨_, _, _, _, hm, _⟩ := k
 exact hm.size
set_option maxRecDepth 100000 in
set_option maxHeartbeats 3200000 in
theorem snapPlays_law (r inc : Int) (A : Option Addr) (n c : Nat) (l : List Act7) (w : World) (_ : (Lit.int .i64 r).wf = true) (_ : (Lit.int .i64 inc).wf = true) (hl : Ls Act7.cells 15 w w.heap.size A n c l ∧ ∀ a ∈ l, a.Ok w w.heap.size) (hL : LaidY w) :
 Calls Tryz.prog 4 #[.int .i64 r, .int .i64 inc, .slice A n c] w fun e w' => e = .returned (.bool true) ∧ Below w.heap.size w w' := by
 show Calls Tryz.prog 4 #[.int .i64 r, .int .i64 inc, .slice A n c] w fun e w' => e = .returned (.bool true) ∧ Ext w w'
 have HA := Lib.hid hl.1
 have HO := Lib.hid hl.2
 have hcap := hl.1.cap
 have hmost := hl.1.most
 have HL := Lib.hid hL
 have hn0 := Nat.zero_le n
 have hnils := eqlS_nils
 have hsnil := eqlY_some_nil
 clear hl hL
 go_enter Tryz.func4, Tryz.ntmps4
 go_wp2_with fail
 refine (greatS_of A n c l HA.out HO.out).mono ?_
 rintro e w1 ⟨b, rfl, hx, hg⟩
 have HE := Lib.hid hx
 clear hx
 cases b with
 | true =>
  go_wp2_with fail
  go_ret
  exact ⟨rfl, HE.out⟩
 | false =>
  obtain ⟨hn25, hall⟩ := hg rfl
  have HALL := Lib.hid hall
  clear hg hall
  go_wp2_with fail
  refine (new_pdk 156 _ (by omega) (by omega)).mono ?_
  rintro e w2 ⟨d, rfl, hp, hx⟩
  have HP2 := Lib.hid hp
  have HX2 := Lib.hid hx
  clear hp hx
  go_wp2_with fail
  refine (rnew_yes 156 w2 (by omega) (by omega)).mono ?_
  rintro e w3 ⟨q, p, rfl, hr, hlw, hx⟩
  have HB := Lib.hid (Both.new HE.out HP2.out HX2.out hr hlw hx)
  clear hr hlw hx HP2 HX2
  have HS0 : Hid ((DM.new 156).size = 156 ∧ (DM.new 156).waits.length = 0) := Lib.hid ⟨by simp [DM.new, DM.size], rfl⟩
  have HMR := Lib.hid (opnM_more (DM.new 156) r inc)
  generalize DM.new 156 = M0 at *
  go_wp2_with fail
  refine (any_open HB.out HL.out HS0.out.1 (by rw [HS0.out.2]; omega) r inc).mono ?_
  rintro e w4 (⟨hE, rfl, F', hW⟩ | ⟨hE, g, rfl, ho⟩)
  ·have hrd := HB.out.rd.mod hW.mod HB.out.apart
   have HX4 : Hid (Ext w w4) := Lib.hid (Below.mod HB.out.dk.bel hW.mod HB.out.dk.bel.size HB.out.dk.low)
   have HRO := Lib.hid (any_ropen hrd HS0.out.1 (by rw [HS0.out.2]; omega) r inc)
   have HE0 := Lib.hid hE
   have HLW : Hid (∀ i, p i ≠ 0 → w.heap.size ≤ i) := Lib.hid HB.out.low
   generalize M0.opnE r inc = E at *
   have hne : (E != 0) = true := by simpa using hE
   have hee : (E != E) = false := by simp
   clear hrd hW hE
   go_wp2_with fail
   refine HRO.out.mono ?_
   rintro e w5 (⟨_, rfl, ho⟩ | ⟨h0, _⟩)
   rotate_left
   ·exact absurd h0 HE0.out
   obtain ⟨p2, _, hm2, _⟩ := ho
   have HX5 : Hid (Ext w w5) := Lib.hid (Below.mod HX4.out hm2 HX4.out.size HLW.out)
   clear hm2
   go_wp2_with fail
   go_ret
   exact ⟨rfl, HX5.out⟩
  obtain ⟨F4, hb, hs4, hg4, _⟩ := PairS.open_ HB.out ho
  have HB4 := Lib.hid hb
  have HS4 := Lib.hid (And.intro hs4 hg4)
  have HOK0 := Lib.hid (And.intro (opnS_ok hE) (opn_ok hE))
  have HE0 := Lib.hid hE
  clear ho hb hs4 hg4 hE
  go_wp2_with fail
  refine (any_ropen HB4.out.rd HS0.out.1 (by rw [HS0.out.2]; omega) r inc).mono ?_
  rintro e w5 (⟨h0, _, _⟩ | ⟨_, y, rfl, ho⟩)
  ·exact absurd HE0.out h0
  obtain ⟨p5, hp5, _⟩ := PairS.ropen HB4.out HS4.out.1 HS4.out.2 ho
  have HP5 := Lib.hid hp5
  have HR := Lib.hid HOK0.out.2.1
  clear ho hp5
  go_wp2_with fail
  go_loopw [11, 13, 15] (fun vx vy i wr => ∃ (k g y : Nat) (F : Nat → Prop) (p : Nat → Nat) (M : DM) (s : ShM) (ic : Int), k ≤ n ∧ vx = .pointer (some ⟨g, 0, none⟩) ∧ vy = .pointer (some ⟨y, 0, none⟩) ∧ i = .int .i64 (k : Int) ∧ Hid (PairS w wr d g q y r ic F p M s M s) ∧ Hid (M.size = 156 ∧ M.waits.length ≤ 20 * (k + 1)) ∧ Hid (s = {} ∨ manOk s = true) ∧ Hid (1 ≤ ic ∧ ic ≤ 1099511627776)) (fun _ _ i _ => n - (intOf i).toNat)
  case atStart => exact ⟨0, g, y, F4, p5, _, _, inc, by omega, rfl, rfl, by simp, HP5, Lib.hid ⟨HMR.out.2.trans HS0.out.1, by have := HMR.out.1; have := HS0.out.2; omega⟩, Lib.hid HOK0.out.1, Lib.hid HOK0.out.2.2⟩
  case round =>
   obtain ⟨k, g, y, F, p, M, s, ic, hkn, rfl, rfl, rfl, HP, HM, HSO, HIC⟩ := hrel
   by_cases hlt : k < n
   case neg =>
    obtain rfl : k = n := by omega
    go_wp2_with fail
    go_ret
    exact ⟨rfl, HP.out.both.dk.bel⟩
   obtain ⟨gl, o, a, rfl, hgl, ha, h0⟩ := HA.out.at_ hlt
   have HAL := Lib.hid (HALL.out a (List.mem_of_getElem? ha))
   have HOK := Lib.hid (HO.out a (List.mem_of_getElem? ha))
   have hklt := HOK.out.lt
   have HB0 : Hid (Ext w wr) := Lib.hid HP.out.both.dk.bel
   have c0 : wr.cell? ⟨gl, o + k * 15, none⟩ = some (.int .u8 (a.k : Int)) := ext_of_cell HB0.out (h0 0 _ rfl)
   have c1 : wr.cell? ⟨gl, o + k * 15 + 1, none⟩ = some (.int .i64 a.num) := ext_of_cell HB0.out (h0 1 _ rfl)
   have c2 : wr.cell? ⟨gl, o + k * 15 + 2, none⟩ = some (.slice a.bA a.bn a.bc) := ext_of_cell HB0.out (h0 2 _ rfl)
   have c3 : wr.cell? ⟨gl, o + k * 15 + 3, none⟩ = some (.bool a.o.sl) := ext_of_cell HB0.out (h0 3 _ rfl)
   have c4 : wr.cell? ⟨gl, o + k * 15 + 4, none⟩ = some (.int .i64 a.o.ta) := ext_of_cell HB0.out (h0 4 _ rfl)
   have c5 : wr.cell? ⟨gl, o + k * 15 + 5, none⟩ = some (.int .i64 a.o.tb) := ext_of_cell HB0.out (h0 5 _ rfl)
   have c6 : wr.cell? ⟨gl, o + k * 15 + 6, none⟩ = some (.int .i64 a.o.tc) := ext_of_cell HB0.out (h0 6 _ rfl)
   have c7 : wr.cell? ⟨gl, o + k * 15 + 7, none⟩ = some (.int .i64 a.o.td) := ext_of_cell HB0.out (h0 7 _ rfl)
   have c8 : wr.cell? ⟨gl, o + k * 15 + 8, none⟩ = some (.int .i64 a.o.te) := ext_of_cell HB0.out (h0 8 _ rfl)
   have c9 : wr.cell? ⟨gl, o + k * 15 + 9, none⟩ = some (.slice a.o.bA a.o.bn a.o.bc) := ext_of_cell HB0.out (h0 9 _ rfl)
   have c10 : wr.cell? ⟨gl, o + k * 15 + 10, none⟩ = some (.int .u8 (a.o.act.kind : Int)) := ext_of_cell HB0.out (h0 10 _ rfl)
   have c11 : wr.cell? ⟨gl, o + k * 15 + 11, none⟩ = some (.int .i64 a.o.act.sec) := ext_of_cell HB0.out (h0 11 _ rfl)
   have c12 : wr.cell? ⟨gl, o + k * 15 + 12, none⟩ = some (.int .i64 a.o.act.num) := ext_of_cell HB0.out (h0 12 _ rfl)
   have c13 : wr.cell? ⟨gl, o + k * 15 + 13, none⟩ = some (.slice a.o.act.bA a.o.act.bn a.o.act.bc) := ext_of_cell HB0.out (h0 13 _ rfl)
   have c14 : wr.cell? ⟨gl, o + k * 15 + 14, none⟩ = some (.slice a.o.act.kA a.o.act.kn a.o.act.kc) := ext_of_cell HB0.out (h0 14 _ rfl)
   have hz := heap_alloc_new wr (.cells #[.int .u8 (a.k : Int), .int .i64 a.num, .slice a.bA a.bn a.bc, .bool a.o.sl, .int .i64 a.o.ta, .int .i64 a.o.tb, .int .i64 a.o.tc, .int .i64 a.o.td, .int .i64 a.o.te, .slice a.o.bA a.o.bn a.o.bc, .int .u8 (a.o.act.kind : Int), .int .i64 a.o.act.sec, .int .i64 a.o.act.num, .slice a.o.act.bA a.o.act.bn a.o.act.bc, .slice a.o.act.kA a.o.act.kn a.o.act.kc] 83)
   have hx := (Ext.refl wr).alloc (.cells #[.int .u8 (a.k : Int), .int .i64 a.num, .slice a.bA a.bn a.bc, .bool a.o.sl, .int .i64 a.o.ta, .int .i64 a.o.tb, .int .i64 a.o.tc, .int .i64 a.o.td, .int .i64 a.o.te, .slice a.o.bA a.o.bn a.o.bc, .int .u8 (a.o.act.kind : Int), .int .i64 a.o.act.sec, .int .i64 a.o.act.num, .slice a.o.act.bA a.o.act.bn a.o.act.bc, .slice a.o.act.kA a.o.act.kn a.o.act.kc] 83)
   have HNB : Hid (NB F p g y wr.heap.size) := Lib.hid ⟨fun hf => Nat.lt_irrefl _ (HP.out.both.dk.disk.lt _ hf), part_none HP.out.both.rd (Nat.le_refl _), fun e => by have := HP.out.sh.lt; omega, fun e => by have := HP.out.rsh.lt; omega⟩
   have HP := Lib.hid (HP.out.ext hx)
   have hszw : wr.heap.size < (wr.alloc (.cells #[.int .u8 (a.k : Int), .int .i64 a.num, .slice a.bA a.bn a.bc, .bool a.o.sl, .int .i64 a.o.ta, .int .i64 a.o.tb, .int .i64 a.o.tc, .int .i64 a.o.td, .int .i64 a.o.te, .slice a.o.bA a.o.bn a.o.bc, .int .u8 (a.o.act.kind : Int), .int .i64 a.o.act.sec, .int .i64 a.o.act.num, .slice a.o.act.bA a.o.act.bn a.o.act.bc, .slice a.o.act.kA a.o.act.kn a.o.act.kc] 83)).heap.size := (Array.getElem?_eq_some_iff.1 hz).1
   clear h0 ha HB0
   go_upto_region 17 with (fail)
   generalize (wr.alloc (.cells #[.int .u8 (a.k : Int), .int .i64 a.num, .slice a.bA a.bn a.bc, .bool a.o.sl, .int .i64 a.o.ta, .int .i64 a.o.tb, .int .i64 a.o.tc, .int .i64 a.o.td, .int .i64 a.o.te, .slice a.o.bA a.o.bn a.o.bc, .int .u8 (a.o.act.kind : Int), .int .i64 a.o.act.sec, .int .i64 a.o.act.num, .slice a.o.act.bA a.o.act.bn a.o.act.bc, .slice a.o.act.kA a.o.act.kn a.o.act.kc] 83)) = V at *
   obtain ⟨gs, hgs⟩ : ∃ gs, wr.heap.size = gs := ⟨_, rfl⟩
   rw [hgs] at hz HNB hszw ⊢
   clear c0 c1 c2 c3 c4 c5 c6 c7 c8 c9 c10 c11 c12 c13 c14 hx hgs
   have HZ := Lib.hid hz
   have s2 := (c15S hz).2.2.1
   have HAB := Lib.hid (HP.out.both.dk.byIn HOK.out.body)
   have hbn : a.bn ≤ 700 := HAL.out.1
   clear hz
   go_wp2_with fail
   refine (copy_by a.bA a.bl a.bn a.bc _ HAB.out (by omega)).mono ?_
   rintro e wv ⟨A1, c1, rfl, hb1, hx, hown⟩
   have HC : Hid (CopS wv F p g y A1 a.bn c1 a.bl) := Lib.hid ⟨hb1, fun z hz _ => by
    have hzb := (own_fresh hown z hz).1
    exact ⟨fun hf => by have := HP.out.both.dk.disk.lt _ hf; omega, part_none HP.out.both.rd hzb, fun e => by have := HP.out.sh.lt; omega, fun e => by have := HP.out.rsh.lt; omega⟩⟩
   have hz := (hx.block gs hszw).trans HZ.out
   have HP := Lib.hid (HP.out.ext hx)
   have HZ := Lib.hid hz
   have hcap1 := hb1.cap
   have hmost1 := hb1.most
   clear hx hown hb1 s2 hszw HAB
   obtain ⟨s0, s1, s2, s3, s4, s5, s6, s7, s8, s9, s10, s11, s12, s13, s14⟩ := c15S hz
   clear hz
   go_upto_block 2 with (fail)
   clear s0 s1 s2 s3 s4 s5 s6 s7 s8 s9 s10 s11 s12 s13 s14
   go_cut [11, 13] (fun vx vy wx => ∃ (g2 y2 : Nat) (F2 : Nat → Prop) (p2 : Nat → Nat) (M2 : DM) (s2 : ShM) (ic2 : Int), vx = .pointer (some ⟨g2, 0, none⟩) ∧ vy = .pointer (some ⟨y2, 0, none⟩) ∧ Hid (PairS w wx d g2 q y2 r ic2 F2 p2 M2 s2 M2 s2) ∧ Hid (M2.size = 156 ∧ M2.waits.length ≤ 20 * (k + 2)) ∧ Hid (s2 = {} ∨ manOk s2 = true) ∧ Hid (1 ≤ ic2 ∧ ic2 ≤ 1099511627776) ∧ Hid (wx.heap[gs]? = some (.cells #[.int .u8 (a.k : Int), .int .i64 a.num, .slice a.bA a.bn a.bc, .bool a.o.sl, .int .i64 a.o.ta, .int .i64 a.o.tb, .int .i64 a.o.tc, .int .i64 a.o.td, .int .i64 a.o.te, .slice a.o.bA a.o.bn a.o.bc, .int .u8 (a.o.act.kind : Int), .int .i64 a.o.act.sec, .int .i64 a.o.act.num, .slice a.o.act.bA a.o.act.bn a.o.act.bc, .slice a.o.act.kA a.o.act.kn a.o.act.kc] 83 (0, 0)) ∧ NB F2 p2 g2 y2 gs) ∧ Hid (CopS wx F2 p2 g2 y2 A1 a.bn c1 a.bl))
   case first =>
    obtain ⟨s0, s1, s2, s3, s4, s5, s6, s7, s8, s9, s10, s11, s12, s13, s14⟩ := c15S HZ.out
    have hM := HM.out.2
    have hM1000 : M.waits.length ≤ 900 := by omega
    have hBD : ∀ V F1 p1 M1 s1 g1 y1 ic1, PairS w V d g1 q y1 r ic1 F1 p1 M1 s1 M s → By V a.bA a.bn a.bc a.bl := fun V F1 p1 M1 s1 g1 y1 ic1 hh => hh.both.dk.byIn HOK.out.body
    have HBD := Lib.hid hBD
    clear hBD
    by_cases hk01 : a.k % 5 = 0 ∨ a.k % 5 = 1
    ·have hst := pair_install (HP.out.ext (Ext.refl wv).drew) HL.out HSO.out HR.out HIC.out HM.out.1 a.num A1 a.bn c1 a.bl (HC.out.1.ext (Ext.refl wv).drew) (by omega)
     have hsr := fun (V1 : World) (F1 : Nat → Prop) (M1 : DM) (s1 : ShM) (hb : PairS w V1 d g q y r ic F1 p M1 s1 M s) => pair_rinstall hb HSO.out HR.out HIC.out HM.out.1 a.num a.bA a.bn a.bc a.bl (HBD.out _ _ _ _ _ _ _ _ hb) (by omega)
     have hmore := insY_more M r ic s a.num a.bl
     have hso := insY_ok (m := M) (r := r) (inc := ic) (i := a.num) (bs := a.bl) HSO.out
     generalize M.insY r ic s a.num a.bl = Z at *
     obtain ⟨E, M2, s2'⟩ := Z
     dsimp only at hst hsr hmore hso
     have HST := Lib.hid hst
     have HSR := Lib.hid hsr
     have HM2 : Hid (M2.size = 156 ∧ M2.waits.length ≤ 20 * (k + 2)) := Lib.hid ⟨hmore.2.trans HM.out.1, by omega⟩
     have HSO2 := Lib.hid hso
     have hee : (E != E) = false := by simp
     have hS0 : wv.drew.cell? ⟨gs, 1, none⟩ = some (.int .i64 a.num) ∧ wv.drew.cell? ⟨gs, 2, none⟩ = some (.slice a.bA a.bn a.bc) := ⟨s1, s2⟩
     clear hst hsr hmore hso
     rcases hk01 with hk | hk
     case' inl =>
      have hk0 : ((a.k : Int) % 5 == 0) = true := by simp; omega
      go_upto_region 23 with (fail)
     case' inr =>
      have hk0 : ((a.k : Int) % 5 == 0) = false := by simp; omega
      have hk1 : ((a.k : Int) % 5 == 1) = true := by simp; omega
      go_upto_region 23 with (fail)
     all_goals
      go_region_held3 (fun w' => w'.cell? ⟨gs, 1, none⟩ = some (.int .i64 a.num) ∧ w'.cell? ⟨gs, 2, none⟩ = some (.slice a.bA a.bn a.bc))
       (first | with_reducible exact hS0 | with_reducible exact hS1 | with_reducible exact hS2)
       (first
        | (go_at_call 26; ((with_reducible refine HST.out.mono ?_); rintro e ws ⟨rfl, hi⟩; obtain ⟨Fa, hpa, hka⟩ := (HP.out.ext (Ext.refl wv).drew).ins hi; have HZa := Lib.hid (hka.row (w := wv.drew) HZ.out HNB.out); have HCa := Lib.hid (CopS.keep (HC.out.keep (KpS.ext (Ext.refl wv).drew)) hka); have HPa := Lib.hid hpa; have hS1 : ws.cell? ⟨gs, 1, none⟩ = some (.int .i64 a.num) ∧ ws.cell? ⟨gs, 2, none⟩ = some (.slice a.bA a.bn a.bc) := ⟨(c15S HZa.out.1).2.1, (c15S HZa.out.1).2.2.1⟩; clear hi hpa hka))
        | (go_at_call 27; ((with_reducible refine (HSR.out _ _ _ _ HPa.out).mono ?_); rintro e wt ⟨rfl, hi⟩; obtain ⟨pb, hpb, hkb⟩ := HPa.out.rins hi; have HZb := Lib.hid (hkb.row HZa.out.1 HZa.out.2); have HCb := Lib.hid (HCa.out.keep hkb); have HPb := Lib.hid hpb; have hS2 : wt.cell? ⟨gs, 1, none⟩ = some (.int .i64 a.num) ∧ wt.cell? ⟨gs, 2, none⟩ = some (.slice a.bA a.bn a.bc) := ⟨(c15S HZb.out.1).2.1, (c15S HZb.out.1).2.2.1⟩; clear hi hpb hkb)))
      go_wp2_with fail
      go_meet
      exact ⟨g, y, Fa, pb, M2, s2', ic, rfl, rfl, HPb, HM2, HSO2, HIC, HZb, HCb⟩
    have hk0 : ((a.k : Int) % 5 == 0) = false := by simp; omega
    have hk1 : ((a.k : Int) % 5 == 1) = false := by simp; omega
    by_cases hk2 : a.k % 5 = 2
    ·have hk2' : ((a.k : Int) % 5 == 2) = true := by simp; omega
     have hst := ymend_ofN (HP.out.ext (Ext.refl wv).drew).sh (HP.out.ext (Ext.refl wv).drew).both.dk.disk HP.out.gF (fun V hV => HL.out.ext (Below.mod (HP.out.ext (Ext.refl wv).drew).both.dk.bel hV (HP.out.ext (Ext.refl wv).drew).both.dk.bel.size HP.out.both.dk.low)) HSO.out HR.out HIC.out a.num A1 a.bn c1 a.bl (HC.out.1.ext (Ext.refl wv).drew) (fun hn z hz => (HC.out.2 z hz hn).1) (by omega)
     have hsr := fun (V1 : World) (F1 : Nat → Prop) (M1 : DM) (s1 : ShM) (hb : PairS w V1 d g q y r ic F1 p M1 s1 M s) => rsmend_of hb.rsh hb.both.rd hb.yp HSO.out HR.out HIC.out a.num a.bA a.bn a.bc a.bl (HBD.out _ _ _ _ _ _ _ _ hb) (by omega)
     have hmore := mendY_more M r ic s a.num a.bl
     generalize M.mendY r ic s a.num a.bl = Z at *
     obtain ⟨E, M2⟩ := Z
     dsimp only at hst hsr hmore
     have HST := Lib.hid hst
     have HSR := Lib.hid hsr
     have HM2 : Hid (M2.size = 156 ∧ M2.waits.length ≤ 20 * (k + 2)) := Lib.hid ⟨hmore.2.trans HM.out.1, by omega⟩
     have hee : (E != E) = false := by simp
     have hS0 : wv.drew.cell? ⟨gs, 1, none⟩ = some (.int .i64 a.num) ∧ wv.drew.cell? ⟨gs, 2, none⟩ = some (.slice a.bA a.bn a.bc) := ⟨s1, s2⟩
     clear hst hsr hmore hk2 hk01
     go_upto_region 26 with (fail)
     go_region_held3 (fun w' => w'.cell? ⟨gs, 1, none⟩ = some (.int .i64 a.num) ∧ w'.cell? ⟨gs, 2, none⟩ = some (.slice a.bA a.bn a.bc))
      (first | with_reducible exact hS0 | with_reducible exact hS1 | with_reducible exact hS2)
      (first
       | (go_at_call 28; ((with_reducible refine HST.out.mono ?_); rintro e ws ⟨rfl, hi⟩; obtain ⟨Fa, hpa, hka⟩ := (HP.out.ext (Ext.refl wv).drew).ins hi; have HZa := Lib.hid (hka.row (w := wv.drew) HZ.out HNB.out); have HCa := Lib.hid (CopS.keep (HC.out.keep (KpS.ext (Ext.refl wv).drew)) hka); have HPa := Lib.hid hpa; have hS1 : ws.cell? ⟨gs, 1, none⟩ = some (.int .i64 a.num) ∧ ws.cell? ⟨gs, 2, none⟩ = some (.slice a.bA a.bn a.bc) := ⟨(c15S HZa.out.1).2.1, (c15S HZa.out.1).2.2.1⟩; clear hi hpa hka))
       | (go_at_call 29; ((with_reducible refine (HSR.out _ _ _ _ HPa.out).mono ?_); rintro e wt ⟨rfl, hi⟩; obtain ⟨pb, hpb, hkb⟩ := HPa.out.out hi; have HZb := Lib.hid (hkb.row HZa.out.1 HZa.out.2); have HCb := Lib.hid (HCa.out.keep hkb); have HPb := Lib.hid hpb; have hS2 : wt.cell? ⟨gs, 1, none⟩ = some (.int .i64 a.num) ∧ wt.cell? ⟨gs, 2, none⟩ = some (.slice a.bA a.bn a.bc) := ⟨(c15S HZb.out.1).2.1, (c15S HZb.out.1).2.2.1⟩; clear hi hpb hkb)))
     go_wp2_with fail
     go_meet
     exact ⟨g, y, Fa, pb, M2, s, ic, rfl, rfl, HPb, HM2, HSO, HIC, HZb, HCb⟩
    have hk2' : ((a.k : Int) % 5 == 2) = false := by simp; omega
    by_cases hk3 : a.k % 5 = 3
    ·have hk3' : ((a.k : Int) % 5 == 3) = true := by simp; omega
     have hmore := opnM_more M r a.num
     have HM2 : Hid ((M.opnM r a.num).size = 156 ∧ (M.opnM r a.num).waits.length ≤ 20 * (k + 2)) := Lib.hid ⟨hmore.2.trans HM.out.1, by omega⟩
     have hsr := fun (V1 : World) (F1 : Nat → Prop) (M1 : DM) (hb : Both w V1 d q F1 p M1 M) => any_ropen hb.rd HM.out.1 (by omega) r a.num
     have HSR := Lib.hid hsr
     clear hk01 hk2 hk3 hmore hsr
     go_wp2_with fail
     refine (any_open HP.out.both HL.out HM.out.1 (by omega) r a.num).mono ?_
     rintro e ws (⟨hE, rfl, F', hW⟩ | ⟨hE, g9, rfl, ho⟩)
     ·obtain ⟨Fa, hpa, hka⟩ := HP.out.ins (hW.ins HP.out.sh HP.out.gF)
      have HZa := Lib.hid (hka.row HZ.out HNB.out)
      have HCa := Lib.hid (HC.out.keep hka)
      have HPa := Lib.hid hpa
      have HE0 := Lib.hid hE
      have HRO := Lib.hid (HSR.out _ _ _ hpa.both)
      have hne : (M.opnE r a.num != 0) = true := by simpa using hE
      have hee : (M.opnE r a.num != M.opnE r a.num) = false := by simp
      have heq : (M.opnE r a.num == 0) = false := by simpa using hE
      clear hpa hka hW hE s0 s1 s2 s3 s4 s5 s6 s7 s8 s9 s10 s11 s12 s13 s14
      obtain ⟨s0, s1, s2, s3, s4, s5, s6, s7, s8, s9, s10, s11, s12, s13, s14⟩ := c15S HZa.out.1
      generalize M.opnE r a.num = E at *
      go_wp2_with fail
      refine HRO.out.mono ?_
      rintro e wt (⟨_, rfl, ho⟩ | ⟨h0, _⟩)
      rotate_left
      ·exact absurd h0 HE0.out
      obtain ⟨pb, hpb, hkb⟩ := HPa.out.out ho
      have HZb := Lib.hid (hkb.row HZa.out.1 HZa.out.2)
      have HCb := Lib.hid (HCa.out.keep hkb)
      have HPb := Lib.hid hpb
      clear ho hpb hkb
      go_wp2_with fail
      go_meet
      exact ⟨g, y, Fa, pb, _, s, ic, rfl, rfl, HPb, HM2, HSO, HIC, HZb, HCb⟩
     ·obtain ⟨Fa, hb, hs9, hg9, hk9⟩ := PairS.open_ HP.out.both ho
      have hsz9 := opny_size ho
      have hlty := HP.out.rsh.lt
      have HBa := Lib.hid hb
      have HS9 := Lib.hid (And.intro hs9 hg9)
      have HE0 := Lib.hid hE
      have HK9 := Lib.hid (And.intro hsz9 hk9)
      have HZa : Hid (ws.heap[gs]? = some (.cells #[.int .u8 (a.k : Int), .int .i64 a.num, .slice a.bA a.bn a.bc, .bool a.o.sl, .int .i64 a.o.ta, .int .i64 a.o.tb, .int .i64 a.o.tc, .int .i64 a.o.td, .int .i64 a.o.te, .slice a.o.bA a.o.bn a.o.bc, .int .u8 (a.o.act.kind : Int), .int .i64 a.o.act.sec, .int .i64 a.o.act.num, .slice a.o.act.bA a.o.act.bn a.o.act.bc, .slice a.o.act.kA a.o.act.kn a.o.act.kc] 83 (0, 0))) := Lib.hid ((hk9 gs (Array.getElem?_eq_some_iff.1 HZ.out).1 HNB.out.1).2.2.trans HZ.out)
      have HRO := Lib.hid (HSR.out _ _ _ hb)
      clear ho hb hs9 hg9 hk9 hE hsz9 s0 s1 s2 s3 s4 s5 s6 s7 s8 s9 s10 s11 s12 s13 s14
      obtain ⟨s0, s1, s2, s3, s4, s5, s6, s7, s8, s9, s10, s11, s12, s13, s14⟩ := c15S HZa.out
      go_wp2_with fail
      refine HRO.out.mono ?_
      rintro e wt (⟨h0, _, _⟩ | ⟨_, y9, rfl, ho⟩)
      ·exact absurd HE0.out h0
      obtain ⟨pb, hpb, hk8⟩ := PairS.ropen HBa.out HS9.out.1 HS9.out.2 ho
      have hsz8 := ropn_size ho
      have hkk : KpS wv wt F p g y Fa pb g9 y9 := ⟨Nat.le_trans HK9.out.1 hsz8, fun b hb hn => by
       obtain ⟨h1, h2, h3⟩ := HK9.out.2 b hb hn.1
       obtain ⟨h4, h5, h6⟩ := hk8 b (Nat.lt_of_lt_of_le hb HK9.out.1) hn.2.1
       exact ⟨⟨h1, h4, h2, h5⟩, h6.trans h3⟩⟩
      have HZb := Lib.hid (hkk.row HZ.out HNB.out)
      have HCb := Lib.hid (HC.out.keep hkk)
      have HPb := Lib.hid hpb
      have HSOn := Lib.hid (opnS_ok HE0.out)
      have HICn := Lib.hid (opn_ok HE0.out).2
      clear ho hpb hk8 hkk hsz8
      go_wp2_with fail
      go_meet
      exact ⟨g9, y9, Fa, pb, _, _, a.num, rfl, rfl, HPb, HM2, HSOn, HICn, HZb, HCb⟩
    have hk3' : ((a.k : Int) % 5 == 3) = false := by simp; omega
    have hok2 : (M.act6 a.o).size = 156 ∧ (M.act6 a.o).waits.length ≤ 20 * (k + 2) := by
     have h1 := act6_waits M a.o
     exact ⟨(act6_size M a.o).trans HM.out.1, by omega⟩
    have hst := do6_any HP.out.both.dk HL.out.f.a.t a.o HOK.out.o HAL.out.2.2.1 (by omega)
    have hsr := fun (V1 : World) (F1 : Nat → Prop) (M1 : DM) (hb : Both w V1 d q F1 p M1 M) => same6_any hb.rd hb.dk.bel hb.low HL.out.f.a.t a.o HOK.out.o HAL.out.2.2.1 (by omega)
    obtain ⟨M2, hM2⟩ : ∃ M2, M.act6 a.o = M2 := ⟨_, rfl⟩
    rw [hM2] at hst hsr hok2
    have HST := Lib.hid hst
    have HSR := Lib.hid hsr
    have HM2 := Lib.hid hok2
    clear hst hsr hok2 hM2 hk01 hk2 hk3
    go_wp2_with fail
    refine HST.out.mono ?_
    rintro e ws ⟨⟨v, rfl⟩, hs⟩
    obtain ⟨Fa, hpa, hka⟩ := HP.out.step hs
    have HZa := Lib.hid (hka.row HZ.out HNB.out)
    have HCa := Lib.hid (HC.out.keep hka)
    have HPa := Lib.hid hpa
    clear hs hpa hka s0 s1 s2 s3 s4 s5 s6 s7 s8 s9 s10 s11 s12 s13 s14
    obtain ⟨s0, s1, s2, s3, s4, s5, s6, s7, s8, s9, s10, s11, s12, s13, s14⟩ := c15S HZa.out.1
    go_wp2_with fail
    refine (HSR.out _ _ _ HPa.out.both).mono ?_
    rintro e wt ⟨⟨v2, rfl⟩, ho⟩
    obtain ⟨pb, hpb, hkb⟩ := HPa.out.out ho
    have HZb := Lib.hid (hkb.row HZa.out.1 HZa.out.2)
    have HCb := Lib.hid (HCa.out.keep hkb)
    have HPb := Lib.hid hpb
    clear ho hpb hkb
    go_wp2_with fail
    go_meet
    exact ⟨g, y, Fa, pb, M2, s, ic, rfl, rfl, HPb, HM2, HSO, HIC, HZb, HCb⟩
   case rest =>
    obtain ⟨g2, y2, F2, p2, M2, s2, ic2, rfl, rfl, HP2, HM2, HSO2, HIC2, HZ2, HC2⟩ := hcut
    obtain ⟨wa, rfl⟩ : ∃ x, x = wc := ⟨_, rfl⟩
    obtain ⟨N, hN⟩ : ∃ N, M2.waits.length = N := ⟨_, rfl⟩
    obtain ⟨Aw, cw, hw3, _, _⟩ := HP2.out.both.heads hN rfl rfl
    have hN9 : N ≤ 600 := by have := HM2.out.2; omega
    have hww : ((N : Int) != (N : Int)) = false := by simp
    have HSA := Lib.hid (same_by A1 a.bA a.bl a.bl _ _ _ _ wa.drew (HC2.out.1.ext (Ext.refl wa).drew) (HP2.out.ext (Ext.refl wa).drew |>.both.dk.byIn HOK.out.body))
    rw [decide_eq_true (rfl : a.bl = a.bl)] at HSA
    have HWT : Hid (∀ V, Ext wa V → Calls Tryz.prog 17 #[.pointer (some ⟨d, 0, none⟩)] V fun e w' => e = .returned (.int .i64 (N : Int)) ∧ V = w') := Lib.hid fun V hV => by
     have := waits_pd (HP2.out.ext hV).both.dk.disk
     rw [hN] at this
     exact this
    have HTL : Hid (∀ V, Ext wa V → Calls Tryz.prog 31 #[.pointer (some ⟨g2, 0, none⟩), .pointer (some ⟨y2, 0, none⟩)] V fun e w' => e = .returned (.bool true) ∧ Ext V w') := Lib.hid fun V hV => by
     have hh := HP2.out.ext hV
     have h6 := six_le HSO2.out
     exact stells_of hh.sh hh.both.dk.disk (HL.out.ext hh.both.dk.bel) hh.rsh hh.both.rd h6.2.1 h6.2.2 (by omega)
    have hS0 : wa.drew.cell? ⟨gs, 2, none⟩ = some (.slice a.bA a.bn a.bc) ∧ wa.drew.cell? ⟨q, 3, none⟩ = some (.slice Aw N cw) := ⟨(c15S HZ2.out.1).2.2.1, hw3⟩
    have HX : Hid (Ext wa wa.drew) := Lib.hid (Ext.refl wa).drew
    have HS0 : Hid (wa.cell? ⟨gs, 2, none⟩ = some (.slice a.bA a.bn a.bc) ∧ wa.cell? ⟨q, 3, none⟩ = some (.slice Aw N cw)) := Lib.hid hS0
    clear hw3 hN
    go_wp2_with fail
    go_region_held3 (fun w' => w'.cell? ⟨gs, 2, none⟩ = some (.slice a.bA a.bn a.bc) ∧ w'.cell? ⟨q, 3, none⟩ = some (.slice Aw N cw))
     (with_reducible exact hS0)
     (first
      | (go_at_call 30; ((with_reducible refine HSA.out.mono ?_); rintro e w6 ⟨rfl, hx⟩; have HX := Lib.hid (HX.out.trans hx); have hS0 := And.intro (ext_of_cell HX.out HS0.out.1) (ext_of_cell HX.out HS0.out.2); clear hx))
      | (go_at_call 17; ((with_reducible refine (HWT.out _ HX.out).mono ?_); rintro e w7 ⟨rfl, rfl⟩))
      | (go_at_call 31; ((with_reducible refine (HTL.out _ HX.out).mono ?_); rintro e w8 ⟨rfl, hx⟩; have HX := Lib.hid (HX.out.trans hx); have hS0 := And.intro (ext_of_cell HX.out HS0.out.1) (ext_of_cell HX.out HS0.out.2); clear hx)))
    all_goals
     have HPz := Lib.hid (HP2.out.ext HX.out)
     clear hS0 hww
     go_wp2_with fail
     go_roundw
     case rel => exact ⟨k + 1, g2, y2, F2, p2, M2, s2, ic2, by omega, rfl, rfl, by go_num, HPz, HM2, HSO2, HIC2⟩
     case measure => simp [intOf]; omega
end Go.Proofs.YtmpaocpgoihliaaGreatDoor
