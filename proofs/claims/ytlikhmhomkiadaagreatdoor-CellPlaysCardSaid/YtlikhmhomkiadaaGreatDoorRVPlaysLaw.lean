/-
  The walk of CellPlays: whatever is done to a disk and its cells, what each call answers, what is loaded, what is on the disk then, is what the chapter says; the body stays.
-/
import Derived.Test.YtlikhmhomkiadaaGreatDoorR27
import Derived.Test.YtlikhmhomkiadaaGreatDoorR31
import Derived.Test.YtlikhmhomkiadaaGreatDoorR33
import Derived.Test.YtlikhmhomkiadaaGreatDoorR39
import Derived.Deep.DeepCutAuto
import Derived.Deep.CutBlock
import Derived.Deep.RegionHeld3
namespace Go.Proofs.YtlikhmhomkiadaaGreatDoor
open Go Go.RowKit

theorem cell_modK {F : Nat → Prop} {w w' : World} {p : Addr} {v : Value} (h : w.cell? p = some v) (k : Mod F w w') (hp : ¬ F p.block) : w'.cell? p = some v := by
  rw [← h]
  exact World.cell?_of_block (k.block p.block (World.block_lt_of_cell? w p h) hp)
/-- What is loaded of an act while its Store is done at both disks. -/
def CSd (gs : Nat) (u v : Value) (w : World) : Prop := w.cell? ⟨gs, 1, none⟩ = some u ∧ w.cell? ⟨gs, 2, none⟩ = some v
theorem CSd.mod {F : Nat → Prop} {w w' : World} {gs : Nat} {u v : Value} (h : CSd gs u v w) (k : Mod F w w') (hg : ¬ F gs) : CSd gs u v w' := ⟨cell_modK h.1 k hg, cell_modK h.2 k hg⟩
theorem rd_newK {d : Nat} {p : Nat → Nat} {w : World} {m : DM} (h : RD w d p m) {g : Nat} (hg : w.heap.size ≤ g) : p g = 0 := by
  by_cases hp : p g = 0
  · exact hp
  · have := h.2 g hp; omega
theorem rputC_size (m : DM) (s : Int) (L : List Nat) : (m.putC s L).2.size = m.size := by
  have hw : (m.write s L).2.size = m.size := by unfold DM.write DM.size; (repeat' split) <;> rfl
  unfold DM.putC
  split
  · exact hw
  · rw [← hw]
    generalize (m.write s L).2 = m1
    unfold DM.flush
    (repeat' split)
    · rfl
    · rfl
    · show (DM.comes _ _).size = _
      rw [DM.comes_size]
      rfl
theorem puts2_waits (m : DM) (r g p : Int) (i c : Nat) (b : List Nat) : (m.puts2 r g p i c b).2.waits.length ≤ m.waits.length + 2 ∧ (m.puts2 r g p i c b).2.size = m.size := by
  unfold DM.puts2
  have h1 := rputC_waits m (firstS g p) (sealC r g p i c b)
  have s1 := rputC_size m (firstS g p) (sealC r g p i c b)
  split
  · exact ⟨by omega, s1⟩
  · have h2 := rputC_waits (m.putC (firstS g p) (sealC r g p i c b)).2 (firstS g (otherP p)) (sealC r g (otherP p) i c b)
    have s2 := rputC_size (m.putC (firstS g p) (sealC r g p i c b)).2 (firstS g (otherP p)) (sealC r g (otherP p) i c b)
    exact ⟨by omega, s2.trans s1⟩
theorem store7_more (m : DM) (r g c : Int) (b : List Nat) : (m.store r g c b).2.waits.length ≤ m.waits.length + 2 ∧ (m.store r g c b).2.size = m.size := by
  unfold DM.store
  split
  · exact ⟨Nat.le_add_right _ _, rfl⟩
  · exact puts2_waits _ _ _ _ _ _ _
theorem heal7_more (m : DM) (r g : Int) : (m.heal r g).2.waits.length ≤ m.waits.length + 2 ∧ (m.heal r g).2.size = m.size := by
  unfold DM.heal
  (repeat' split)
  · exact ⟨Nat.le_add_right _ _, rfl⟩
  · exact ⟨Nat.le_add_right _ _, rfl⟩
  · exact ⟨by have := rputC_waits m (firstS g (otherP (atC r g (m.cb g 0) (m.cb g 1)))) (sealC r g (otherP (atC r g (m.cb g 0) (m.cb g 1))) (cellF r g (m.cb g 0) (m.cb g 1) 3) (cellF r g (m.cb g 0) (m.cb g 1) 4) (cellB r g (m.cb g 0) (m.cb g 1))); omega, rputC_size _ _ _⟩
theorem c15 {w : World} {g : Nat} {t : TypeId} {x0 x1 x2 x3 x4 x5 x6 x7 x8 x9 x10 x11 x12 x13 x14 : Value} (h : w.heap[g]? = some (.cells #[x0, x1, x2, x3, x4, x5, x6, x7, x8, x9, x10, x11, x12, x13, x14] t (0, 0))) : w.cell? ⟨g, 0, none⟩ = some x0 ∧ w.cell? ⟨g, 1, none⟩ = some x1 ∧ w.cell? ⟨g, 2, none⟩ = some x2 ∧ w.cell? ⟨g, 3, none⟩ = some x3 ∧ w.cell? ⟨g, 4, none⟩ = some x4 ∧ w.cell? ⟨g, 5, none⟩ = some x5 ∧ w.cell? ⟨g, 6, none⟩ = some x6 ∧ w.cell? ⟨g, 7, none⟩ = some x7 ∧ w.cell? ⟨g, 8, none⟩ = some x8 ∧ w.cell? ⟨g, 9, none⟩ = some x9 ∧ w.cell? ⟨g, 10, none⟩ = some x10 ∧ w.cell? ⟨g, 11, none⟩ = some x11 ∧ w.cell? ⟨g, 12, none⟩ = some x12 ∧ w.cell? ⟨g, 13, none⟩ = some x13 ∧ w.cell? ⟨g, 14, none⟩ = some x14 :=
  ⟨cell_of_row w g 0 _ _ _ h, cell_of_row w g 1 _ _ _ h, cell_of_row w g 2 _ _ _ h, cell_of_row w g 3 _ _ _ h, cell_of_row w g 4 _ _ _ h, cell_of_row w g 5 _ _ _ h, cell_of_row w g 6 _ _ _ h, cell_of_row w g 7 _ _ _ h, cell_of_row w g 8 _ _ _ h, cell_of_row w g 9 _ _ _ h, cell_of_row w g 10 _ _ _ h, cell_of_row w g 11 _ _ _ h, cell_of_row w g 12 _ _ _ h, cell_of_row w g 13 _ _ _ h, cell_of_row w g 14 _ _ _ h⟩
theorem storeK_more (m : DM) (r g c : Int) (b : List Nat) : (m.storeK r g c b).2.waits.length ≤ m.waits.length + 2 ∧ (m.storeK r g c b).2.size = m.size := by
  unfold DM.storeK
  split
  · exact store7_more m r g c b
  · exact ⟨Nat.le_add_right _ _, rfl⟩
theorem healK_more (m : DM) (r g : Int) : (m.healK r g).2.waits.length ≤ m.waits.length + 2 ∧ (m.healK r g).2.size = m.size := by
  unfold DM.healK
  split
  · exact heal7_more m r g
  · exact ⟨Nat.le_add_right _ _, rfl⟩

set_option maxRecDepth 100000 in
set_option maxHeartbeats 1600000 in
theorem cellPlays_law (r g : Int) (A : Option Addr) (n c : Nat) (l : List Act7) (w : World) (_ : (Lit.int .i64 r).wf = true) (_ : (Lit.int .i64 g).wf = true) (hl : Ls Act7.cells 15 w w.heap.size A n c l ∧ ∀ a ∈ l, a.Ok w w.heap.size) (hL : LaidF w) :
    Calls Tryz.prog 4 #[.int .i64 r, .int .i64 g, .slice A n c] w fun e w' => e = .returned (.bool true) ∧ Below w.heap.size w w' := by
  show Calls Tryz.prog 4 #[.int .i64 r, .int .i64 g, .slice A n c] w fun e w' => e = .returned (.bool true) ∧ Ext w w'
  have HA := Lib.hid hl.1
  have HO := Lib.hid hl.2
  have hcap := hl.1.cap
  have hmost := hl.1.most
  have HL := Lib.hid hL
  have hn0 := Nat.zero_le n
  clear hl hL
  go_enter Tryz.func4, Tryz.ntmps4
  go_wp2_with fail
  refine (greatA7_of A n c l HA.out HO.out).mono ?_
  rintro e w1 ⟨b, rfl, hx, hg⟩
  have HE := Lib.hid hx
  clear hx
  cases b with
  | true =>
    go_wp2_with fail
    go_ret
    exact ⟨rfl, HE.out⟩
  | false =>
    obtain ⟨hn40, hall⟩ := hg rfl
    have HALL := Lib.hid hall
    clear hg hall
    go_wp2_with fail
    refine (new_pdk 156 _ (by omega) (by omega)).mono ?_
    rintro e w2 ⟨d, rfl, hp, hx⟩
    have HP2 := Lib.hid hp
    have HX2 := Lib.hid hx
    clear hp hx
    go_wp2_with fail
    refine (rnew_yes 156 w2 (by omega) (by omega)).mono ?_
    rintro e w3 ⟨q, p, rfl, hr, hlw, hx⟩
    have HB := Lib.hid (Both.new HE.out HP2.out HX2.out hr hlw hx)
    clear hr hlw hx HP2 HX2
    go_wp2_with fail
    go_loopw [11] (fun i wr => ∃ (k : Nat) (F : Nat → Prop) (p : Nat → Nat) (M : DM), k ≤ n ∧ i = .int .i64 k ∧ Hid (Both w wr d q F p M M) ∧ Hid (M.size = 156 ∧ M.waits.length ≤ 2 * k)) (fun i _ => n - (intOf i).toNat)
    case atStart => exact ⟨0, _, p, DM.new 156, Nat.zero_le _, rfl, HB, Lib.hid ⟨by simp [DM.new, DM.size], Nat.le_refl _⟩⟩
    case round =>
      obtain ⟨k, F, p, M, hkn, rfl, HB, HM⟩ := hrel
      by_cases hlt : k < n
      · obtain ⟨gl, o, a, rfl, hgl, ha, h0⟩ := HA.out.at_ hlt
        have HAL := Lib.hid (HALL.out a (List.mem_of_getElem? ha))
        have HOK := Lib.hid (HO.out a (List.mem_of_getElem? ha))
        have hklt := HOK.out.lt
        have c0 : wr.cell? ⟨gl, o + k * 15, none⟩ = some (.int .u8 (a.k : Int)) := (Below.cell HB.out.dk.bel (p := ⟨gl, o + k * 15, none⟩) hgl).trans (h0 0 _ rfl)
        have c1 : wr.cell? ⟨gl, o + k * 15 + 1, none⟩ = some (.int .i64 a.num) := (Below.cell HB.out.dk.bel (p := ⟨gl, o + k * 15 + 1, none⟩) hgl).trans (h0 1 _ rfl)
        have c2 : wr.cell? ⟨gl, o + k * 15 + 2, none⟩ = some (.slice a.bA a.bn a.bc) := (Below.cell HB.out.dk.bel (p := ⟨gl, o + k * 15 + 2, none⟩) hgl).trans (h0 2 _ rfl)
        have c3 : wr.cell? ⟨gl, o + k * 15 + 3, none⟩ = some (.bool a.o.sl) := (Below.cell HB.out.dk.bel (p := ⟨gl, o + k * 15 + 3, none⟩) hgl).trans (h0 3 _ rfl)
        have c4 : wr.cell? ⟨gl, o + k * 15 + 4, none⟩ = some (.int .i64 a.o.ta) := (Below.cell HB.out.dk.bel (p := ⟨gl, o + k * 15 + 4, none⟩) hgl).trans (h0 4 _ rfl)
        have c5 : wr.cell? ⟨gl, o + k * 15 + 5, none⟩ = some (.int .i64 a.o.tb) := (Below.cell HB.out.dk.bel (p := ⟨gl, o + k * 15 + 5, none⟩) hgl).trans (h0 5 _ rfl)
        have c6 : wr.cell? ⟨gl, o + k * 15 + 6, none⟩ = some (.int .i64 a.o.tc) := (Below.cell HB.out.dk.bel (p := ⟨gl, o + k * 15 + 6, none⟩) hgl).trans (h0 6 _ rfl)
        have c7 : wr.cell? ⟨gl, o + k * 15 + 7, none⟩ = some (.int .i64 a.o.td) := (Below.cell HB.out.dk.bel (p := ⟨gl, o + k * 15 + 7, none⟩) hgl).trans (h0 7 _ rfl)
        have c8 : wr.cell? ⟨gl, o + k * 15 + 8, none⟩ = some (.int .i64 a.o.te) := (Below.cell HB.out.dk.bel (p := ⟨gl, o + k * 15 + 8, none⟩) hgl).trans (h0 8 _ rfl)
        have c9 : wr.cell? ⟨gl, o + k * 15 + 9, none⟩ = some (.slice a.o.bA a.o.bn a.o.bc) := (Below.cell HB.out.dk.bel (p := ⟨gl, o + k * 15 + 9, none⟩) hgl).trans (h0 9 _ rfl)
        have c10 : wr.cell? ⟨gl, o + k * 15 + 10, none⟩ = some (.int .u8 (a.o.act.kind : Int)) := (Below.cell HB.out.dk.bel (p := ⟨gl, o + k * 15 + 10, none⟩) hgl).trans (h0 10 _ rfl)
        have c11 : wr.cell? ⟨gl, o + k * 15 + 11, none⟩ = some (.int .i64 a.o.act.sec) := (Below.cell HB.out.dk.bel (p := ⟨gl, o + k * 15 + 11, none⟩) hgl).trans (h0 11 _ rfl)
        have c12 : wr.cell? ⟨gl, o + k * 15 + 12, none⟩ = some (.int .i64 a.o.act.num) := (Below.cell HB.out.dk.bel (p := ⟨gl, o + k * 15 + 12, none⟩) hgl).trans (h0 12 _ rfl)
        have c13 : wr.cell? ⟨gl, o + k * 15 + 13, none⟩ = some (.slice a.o.act.bA a.o.act.bn a.o.act.bc) := (Below.cell HB.out.dk.bel (p := ⟨gl, o + k * 15 + 13, none⟩) hgl).trans (h0 13 _ rfl)
        have c14 : wr.cell? ⟨gl, o + k * 15 + 14, none⟩ = some (.slice a.o.act.kA a.o.act.kn a.o.act.kc) := (Below.cell HB.out.dk.bel (p := ⟨gl, o + k * 15 + 14, none⟩) hgl).trans (h0 14 _ rfl)
        have HS := Lib.hid (Keep.new HB.out.dk.disk (.cells #[.int .u8 (a.k : Int), .int .i64 a.num, .slice a.bA a.bn a.bc, .bool a.o.sl, .int .i64 a.o.ta, .int .i64 a.o.tb, .int .i64 a.o.tc, .int .i64 a.o.td, .int .i64 a.o.te, .slice a.o.bA a.o.bn a.o.bc, .int .u8 (a.o.act.kind : Int), .int .i64 a.o.act.sec, .int .i64 a.o.act.num, .slice a.o.act.bA a.o.act.bn a.o.act.bc, .slice a.o.act.kA a.o.act.kn a.o.act.kc] 61))
        have hwr := HB.out.dk.bel.size
        have hsf := HS.out.off
        have HSP : Hid (p wr.heap.size = 0) := Lib.hid (rd_newK HB.out.rd (Nat.le_refl _))
        have HB := Lib.hid (HB.out.ext ((Ext.refl wr).alloc (.cells #[.int .u8 (a.k : Int), .int .i64 a.num, .slice a.bA a.bn a.bc, .bool a.o.sl, .int .i64 a.o.ta, .int .i64 a.o.tb, .int .i64 a.o.tc, .int .i64 a.o.td, .int .i64 a.o.te, .slice a.o.bA a.o.bn a.o.bc, .int .u8 (a.o.act.kind : Int), .int .i64 a.o.act.sec, .int .i64 a.o.act.num, .slice a.o.act.bA a.o.act.bn a.o.act.bc, .slice a.o.act.kA a.o.act.kn a.o.act.kc] 61)))
        have HWR := Lib.hid hwr
        have HSF := Lib.hid hsf
        clear h0 ha hwr hsf
        go_upto_block 2 with (fail)
        generalize hgs : wr.heap.size = gs at *
        generalize (wr.alloc (.cells #[.int .u8 (a.k : Int), .int .i64 a.num, .slice a.bA a.bn a.bc, .bool a.o.sl, .int .i64 a.o.ta, .int .i64 a.o.tb, .int .i64 a.o.tc, .int .i64 a.o.td, .int .i64 a.o.te, .slice a.o.bA a.o.bn a.o.bc, .int .u8 (a.o.act.kind : Int), .int .i64 a.o.act.sec, .int .i64 a.o.act.num, .slice a.o.act.bA a.o.act.bn a.o.act.bc, .slice a.o.act.kA a.o.act.kn a.o.act.kc] 61)) = V at *
        have HGW := HWR
        clear c0 c1 c2 c3 c4 c5 c6 c7 c8 c9 c10 c11 c12 c13 c14 hgs
        go_cut [] (fun wx => ∃ (F2 : Nat → Prop) (p2 : Nat → Nat) (M2 : DM), Hid (Both w wx d q F2 p2 M2 M2) ∧ Hid (M2.size = 156 ∧ M2.waits.length ≤ 2 * (k + 1)))
        case first =>
          obtain ⟨s0, s1, s2, s3, s4, s5, s6, s7, s8, s9, s10, s11, s12, s13, s14⟩ := c15 HS.out.row
          by_cases h0 : a.k % 4 = 0
          · have hk0 : ((a.k : Int) % 4 == 0) = true := by simp; omega
            have HBS := HOK.out.body
            have HAB := Lib.hid (HB.out.dk.byIn HBS)
            have HAL0 := Lib.hid HAL.out.1
            clear h0 HBS
            go_wp2_with fail
            refine (copy_by a.bA a.bl a.bn a.bc _ HAB.out (by have := HAL0.out; omega)).mono ?_
            rintro e wv ⟨A1, c1, rfl, hb1, hx, hown⟩
            have HB1 := Lib.hid hb1
            have HF1 : Hid (∀ gg oo, A1 = some ⟨gg, oo, none⟩ → 0 < a.bn → ¬ F gg) := Lib.hid (by
              intro gg oo e _ hf
              subst e
              have h1 := (hown.lt gg rfl).1
              have h2 := HB.out.dk.disk.lt _ hf
              omega)
            have HP1 : Hid (∀ gg oo, A1 = some ⟨gg, oo, none⟩ → 0 < a.bn → p gg = 0) := Lib.hid (by
              intro gg oo e _
              subst e
              exact rd_newK HB.out.rd ((hown.lt gg rfl).1))
            have HPO : Hid (∀ gg oo, a.bA = some ⟨gg, oo, none⟩ → 0 < a.bn → p gg = 0) := Lib.hid (by
              intro gg oo e hn
              obtain ⟨g9, o9, e9, h9, _⟩ := HOK.out.body.rd.2 (by rw [HOK.out.body.len]; exact hn)
              rw [e] at e9
              injection e9 with e9
              injection e9 with e9 _
              by_cases hp : p gg = 0
              · exact hp
              · have := HB.out.low gg hp; omega)
            have HB := Lib.hid (HB.out.ext hx)
            have HS := Lib.hid (HS.out.ext hx)
            clear hb1 hown hx s0 s1 s2 s3 s4 s5 s6 s7 s8 s9 s10 s11 s12 s13 s14
            have hst := fun (V1 : World) (hV : Ext wv V1) => Store_any (HB.out.ext hV).dk.disk (HL.out.ext (HB.out.ext hV).dk.bel) ((HB.out.ext hV).dk.laid HL.out) HM.out.1 r g a.num A1 a.bn c1 a.bl (HB1.out.ext hV) HF1.out (by have := HM.out.2; omega)
            have hsr := fun (V1 : World) (F1 : Nat → Prop) (M1 : DM) (hb : Both w V1 d q F1 p M1 M) => rstore_anyK hb.rd r g a.num a.bA a.bn a.bc a.bl (hb.dk.byIn HOK.out.body) HPO.out (by have := HM.out.2; omega)
            have hok2 : (M.storeK r g a.num a.bl).2.size = 156 ∧ (M.storeK r g a.num a.bl).2.waits.length ≤ 2 * (k + 1) := by
              have h1 := storeK_more M r g a.num a.bl
              have h2 := HM.out
              exact ⟨h1.2.trans h2.1, by omega⟩
            obtain ⟨E, hE⟩ : ∃ E, (M.storeK r g a.num a.bl).1 = E := ⟨_, rfl⟩
            obtain ⟨M2, hM2⟩ : ∃ M2, (M.storeK r g a.num a.bl).2 = M2 := ⟨_, rfl⟩
            rw [hE, hM2] at hst hsr
            rw [hM2] at hok2
            have HST := Lib.hid hst
            have HSR := Lib.hid hsr
            have HM2 := Lib.hid hok2
            have hS0 : CSd gs (.int .i64 a.num) (.slice a.bA a.bn a.bc) wv.drew := ⟨Ext.cell (Ext.refl wv).drew (c15 HS.out.row).2.1, Ext.cell (Ext.refl wv).drew (c15 HS.out.row).2.2.1⟩
            clear hst hsr hok2 hE hM2
            go_wp2_with fail
            go_region_held3 (fun w' => w'.cell? ⟨gs, 1, none⟩ = some (.int .i64 a.num) ∧ w'.cell? ⟨gs, 2, none⟩ = some (.slice a.bA a.bn a.bc))
              (first | exact hS0 | exact hS1 | exact hS2 | exact hS3)
              (first
                | (go_at_call 22; ((with_reducible refine (HST.out _ (Ext.refl wv).drew).mono ?_); rintro e ws ⟨rfl, hs⟩; have hS1 := CSd.mod hS0 hs.2 HSF.out; have HBa := Lib.hid (Both.of_step (HB.out.ext (Ext.refl wv).drew) hs); have HB1a := Lib.hid (By.modG (HB1.out.ext (Ext.refl wv).drew) hs.2 HF1.out); clear hs))
                | (go_at_call 23; ((with_reducible refine (HSR.out _ _ _ HBa.out).mono ?_); rintro e wt ⟨rfl, hs⟩; have hS2 := CSd.mod hS1 hs.choose_spec.2.1 (by simp [HSP.out]); have HB1b := Lib.hid (By.modR HB1a.out hs.choose_spec.2.1 HP1.out); obtain ⟨p2, hb2⟩ := Both.of_out HBa.out hs; have HBb := Lib.hid hb2; clear hs hb2))
                | (go_at_call 19; ((with_reducible refine (same_by A1 a.bA a.bl a.bl _ _ _ _ _ HB1b.out (HBb.out.dk.byIn HOK.out.body)).mono ?_); rw [decide_eq_true (rfl : a.bl = a.bl)]; rintro e wu ⟨rfl, hx⟩; have hS3 : CSd gs (.int .i64 a.num) (.slice a.bA a.bn a.bc) wu := ⟨Ext.cell hx hS2.1, Ext.cell hx hS2.2⟩; have HBc := Lib.hid (HBb.out.ext hx); clear hx)))
            clear hS0
            go_wp2_with fail
            go_meet
            exact ⟨_, _, M2, HBc, HM2⟩
          · by_cases h1 : a.k % 4 = 1
            · have hk0 : ((a.k : Int) % 4 == 0) = false := by simp; omega
              have hk1 : ((a.k : Int) % 4 == 1) = true := by simp; omega
              have hok2 : (M.healK r g).2.size = 156 ∧ (M.healK r g).2.waits.length ≤ 2 * (k + 1) := by
                have h1 := healK_more M r g
                have h2 := HM.out
                exact ⟨h1.2.trans h2.1, by omega⟩
              have hst := Heal_any HB.out.dk.disk (HL.out.ext HB.out.dk.bel) HM.out.1 r g (by have := HM.out.2; omega)
              have hsr := fun (V1 : World) (F1 : Nat → Prop) (M1 : DM) (hb : Both w V1 d q F1 p M1 M) => rheal_anyK hb.rd r g (by have := HM.out.2; omega)
              obtain ⟨E, hE⟩ : ∃ E, (M.healK r g).1 = E := ⟨_, rfl⟩
              obtain ⟨M2, hM2⟩ : ∃ M2, (M.healK r g).2 = M2 := ⟨_, rfl⟩
              rw [hE, hM2] at hst hsr
              rw [hM2] at hok2
              have HST := Lib.hid hst
              have HSR := Lib.hid hsr
              have HM2 := Lib.hid hok2
              clear hst hsr hok2 hE hM2 h0 h1
              go_wp2_with fail
              refine HST.out.mono ?_
              rintro e ws ⟨rfl, hs⟩
              have HBa := Lib.hid (Both.of_step HB.out hs)
              clear hs
              go_wp2_with fail
              refine (HSR.out _ _ _ HBa.out).mono ?_
              rintro e wt ⟨rfl, hs⟩
              obtain ⟨p2, hb2⟩ := Both.of_out HBa.out hs
              have HBb := Lib.hid hb2
              clear hs hb2
              go_wp2_with fail
              go_meet
              exact ⟨_, _, M2, HBb, HM2⟩
            · have hk0 : ((a.k : Int) % 4 == 0) = false := by simp; omega
              have hk1 : ((a.k : Int) % 4 == 1) = false := by simp; omega
              have hok2 : (M.act6 a.o).size = 156 ∧ (M.act6 a.o).waits.length ≤ 2 * (k + 1) := by
                have h1 := act6_waits M a.o
                have h2 := HM.out
                exact ⟨(act6_size M a.o).trans h2.1, by omega⟩
              have hst := do6_any HB.out.dk HL.out.a.t a.o HOK.out.o HAL.out.2.2.1 (by have := HM.out.2; omega)
              have hsr := fun (V1 : World) (F1 : Nat → Prop) (M1 : DM) (hb : Both w V1 d q F1 p M1 M) => Both.same6 hb HL.out.a.t a.o HOK.out.o HAL.out.2.2.1 (by have := HM.out.2; omega)
              obtain ⟨M2, hM2⟩ : ∃ M2, M.act6 a.o = M2 := ⟨_, rfl⟩
              rw [hM2] at hst hsr hok2
              have HST := Lib.hid hst
              have HSR := Lib.hid hsr
              have HM2 := Lib.hid hok2
              clear hst hsr hok2 hM2 h0 h1
              go_wp2_with fail
              refine HST.out.mono ?_
              rintro e ws ⟨⟨v, rfl⟩, hs⟩
              have HBa := Lib.hid (Both.of_step HB.out hs)
              have HS := Lib.hid (HS.out.step hs.2)
              clear hs s0 s1 s2 s3 s4 s5 s6 s7 s8 s9 s10 s11 s12 s13 s14
              obtain ⟨s0, s1, s2, s3, s4, s5, s6, s7, s8, s9, s10, s11, s12, s13, s14⟩ := c15 HS.out.row
              go_wp2_with fail
              refine (HSR.out _ _ _ HBa.out).mono ?_
              rintro e wt ⟨⟨v2, rfl⟩, p2, hb2⟩
              have HBb := Lib.hid hb2
              clear hb2
              go_wp2_with fail
              go_meet
              exact ⟨_, _, M2, HBb, HM2⟩
        case rest =>
          obtain ⟨F2, p2, M2, HB, HM⟩ := hcut
          have hld := Load_any HB.out.dk.disk (HL.out.ext HB.out.dk.bel) HM.out.1 r g (by have := HM.out.2; omega)
          have hlr := fun (V1 : World) (hb : Both w V1 d q F2 p2 M2 M2) => rload_anyK hb.rd r g (by have := HM.out.2; omega)
          generalize M2.ldKE r g = E at hld hlr
          generalize M2.ldKV r g = vv at hld hlr
          generalize M2.ldKB r g = bb at hld hlr
          have HLD := Lib.hid hld
          have HLR := Lib.hid hlr
          clear hld hlr
          go_wp2_with fail
          refine HLD.out.mono ?_
          rintro e w4 ⟨A4, N4, rfl, hb4, hx⟩
          have HB4 := Lib.hid hb4
          have HB := Lib.hid (HB.out.ext hx)
          clear hb4 hx
          go_wp2_with fail
          refine (HLR.out _ HB.out).mono ?_
          rintro e w5 ⟨A5, N5, c5, rfl, hb5, hx⟩
          have HB5 := Lib.hid hb5
          have HB4 := Lib.hid (HB4.out.ext hx)
          have HB := Lib.hid (HB.out.ext hx)
          clear hb5 hx
          go_wp2_with fail
          refine (same_by A4 A5 bb bb _ _ _ _ _ HB4.out HB5.out).mono ?_
          rw [decide_eq_true (rfl : bb = bb)]
          rintro e w6 ⟨rfl, hx⟩
          have HB := Lib.hid (HB.out.ext hx)
          clear hx
          go_wp2_with fail
          refine (alike_of HB.out.dk.disk HB.out.rd).mono ?_
          rintro e w7 ⟨rfl, hx⟩
          have HB := Lib.hid (HB.out.ext hx)
          clear hx
          go_wp2_with fail
          go_roundw
          case rel => exact ⟨k + 1, F2, p2, M2, by omega, by go_num, HB, HM⟩
          case measure => simp [intOf]; omega
      · go_wp2_with fail
        go_ret
        exact ⟨rfl, HB.out.dk.bel⟩
end Go.Proofs.YtlikhmhomkiadaaGreatDoor
