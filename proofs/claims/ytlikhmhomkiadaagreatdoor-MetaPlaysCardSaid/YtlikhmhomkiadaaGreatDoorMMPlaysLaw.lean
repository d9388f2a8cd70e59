/-
  The walk of MetaPlays: whatever is done, what Begin and Promise answer, and what is on the disk then, is what the chapter says.
-/
import Derived.Test.YtlikhmhomkiadaaGreatDoorM08
import Derived.Test.YtlikhmhomkiadaaGreatDoorM23
import Derived.Test.YtlikhmhomkiadaaGreatDoorM25
import Derived.Test.YtlikhmhomkiadaaGreatDoorM39
import Derived.Deep.DeepCutAuto
import Derived.Deep.RegionHeld3
namespace Go.Proofs.YtlikhmhomkiadaaGreatDoor
open Go Go.RowKit

theorem meta_neqK (a b c a' b' c' : Int) (w : World) : (binOp .neq 76 (.agg #[.int .i64 a, .int .i64 b, .int .i64 c]) (.agg #[.int .i64 a', .int .i64 b', .int .i64 c'])).run Tryz.prog w = .ok (.bool (!(a == a' && (b == b' && c == c')))) w := by
  have hf : Tryz.prog.stoodInHeld 76 = false := by kernel_rfl
  have hu := Tryz.underlying76
  have hu2 := Tryz.underlying74
  rw [run_neq_struct, run_equalIn_agg _ _ _ _ _ (by rw [Program.fieldsOf, hu]) hf, Program.fieldsOf, hu]
  simp [Op.eqFields, go_sem]
  by_cases h1 : a = a' <;> by_cases h2 : b = b' <;> by_cases h3 : c = c' <;> simp [h1, h2, h3]
theorem rd_waitK {w : World} {d : Nat} {p : Nat → Nat} {m : DM} (h : RD w d p m) : ∃ A c, w.cell? ⟨d, 3, none⟩ = some (.slice A m.waits.length c) := by
  obtain ⟨⟨q, hq⟩, _⟩ := h
  obtain ⟨⟨_, _, _, d3, _, _, _⟩, _⟩ := hq.head.cells
  obtain ⟨A, c, e, _, _⟩ := own_form2 hq.pen
  rw [e] at d3
  exact ⟨A, c, d3⟩
theorem c15K {w : World} {g : Nat} {t : TypeId} {x0 x1 x2 x3 x4 x5 x6 x7 x8 x9 x10 x11 x12 x13 x14 : Value} (h : w.heap[g]? = some (.cells #[x0, x1, x2, x3, x4, x5, x6, x7, x8, x9, x10, x11, x12, x13, x14] t (0, 0))) : w.cell? ⟨g, 0, none⟩ = some x0 ∧ w.cell? ⟨g, 1, none⟩ = some x1 ∧ w.cell? ⟨g, 2, none⟩ = some x2 ∧ w.cell? ⟨g, 3, none⟩ = some x3 ∧ w.cell? ⟨g, 4, none⟩ = some x4 ∧ w.cell? ⟨g, 5, none⟩ = some x5 ∧ w.cell? ⟨g, 6, none⟩ = some x6 ∧ w.cell? ⟨g, 7, none⟩ = some x7 ∧ w.cell? ⟨g, 8, none⟩ = some x8 ∧ w.cell? ⟨g, 9, none⟩ = some x9 ∧ w.cell? ⟨g, 10, none⟩ = some x10 ∧ w.cell? ⟨g, 11, none⟩ = some x11 ∧ w.cell? ⟨g, 12, none⟩ = some x12 ∧ w.cell? ⟨g, 13, none⟩ = some x13 ∧ w.cell? ⟨g, 14, none⟩ = some x14 :=
  ⟨cell_of_row w g 0 _ _ _ h, cell_of_row w g 1 _ _ _ h, cell_of_row w g 2 _ _ _ h, cell_of_row w g 3 _ _ _ h, cell_of_row w g 4 _ _ _ h, cell_of_row w g 5 _ _ _ h, cell_of_row w g 6 _ _ _ h, cell_of_row w g 7 _ _ _ h, cell_of_row w g 8 _ _ _ h, cell_of_row w g 9 _ _ _ h, cell_of_row w g 10 _ _ _ h, cell_of_row w g 11 _ _ _ h, cell_of_row w g 12 _ _ _ h, cell_of_row w g 13 _ _ _ h, cell_of_row w g 14 _ _ _ h⟩
set_option maxRecDepth 100000 in
set_option maxHeartbeats 3200000 in
theorem metaPlays_law (r fa fb fc : Int) (A : Option Addr) (n c : Nat) (l : List Act8) (w : World) (_ : (Lit.int .i64 r).wf = true) (hl : Ls Act8.cells 15 w w.heap.size A n c l ∧ ∀ a ∈ l, a.Ok w w.heap.size) (hL : LaidF w) :
    Calls Tryz.prog 5 #[.int .i64 r, .agg #[.int .i64 fa, .int .i64 fb, .int .i64 fc], .slice A n c] w fun e w' => e = .returned (.bool true) ∧ Below w.heap.size w w' := by
  show Calls Tryz.prog 5 #[.int .i64 r, .agg #[.int .i64 fa, .int .i64 fb, .int .i64 fc], .slice A n c] w fun e w' => e = .returned (.bool true) ∧ Ext w w'
  have hE0 := (Ext.refl w).alloc (.cells #[.int .i64 fa, .int .i64 fb, .int .i64 fc] 76)
  have hA0 := hl.1.below (show Below w.heap.size w (w.alloc (.cells #[.int .i64 fa, .int .i64 fb, .int .i64 fc] 76)) from hE0)
  have HA := Lib.hid hl.1
  have HO := Lib.hid hl.2
  have hg8 := greatA8_of A n c l (w := (w.alloc (.cells #[.int .i64 fa, .int .i64 fb, .int .i64 fc] 76))) ⟨hA0.len, hA0.cap, hA0.most, fun hn => by
    obtain ⟨g, o, e, hg, hc⟩ := hA0.rd hn
    exact ⟨g, o, e, Nat.lt_of_lt_of_le hg hE0.size, hc⟩, hA0.nil_⟩ (fun a ha => ⟨(hl.2 a ha).lt, ((hl.2 a ha).o.below hE0).more hE0.size⟩)
  have HG8 := Lib.hid hg8
  have HF0 := Lib.hid (heap_alloc_new w (.cells #[.int .i64 fa, .int .i64 fb, .int .i64 fc] 76))
  have HE := Lib.hid hE0
  have hcap := hl.1.cap
  have hmost := hl.1.most
  have HL := Lib.hid hL
  have hn0 := Nat.zero_le n
  clear hl hL hE0 hA0 hg8
  go_enter Tryz.func5, Tryz.ntmps5
  go_wp2_with fail
  refine HG8.out.mono ?_
  rintro e w1 ⟨b, rfl, hx, hg⟩
  have HF0 := Lib.hid ((hx.block _ (Array.getElem?_eq_some_iff.1 HF0.out).1).trans HF0.out)
  have HE := Lib.hid (HE.out.trans hx)
  clear hx
  cases b with
  | true =>
    go_wp2_with fail
    go_ret
    exact ⟨rfl, HE.out⟩
  | false =>
    obtain ⟨hn40, hall⟩ := hg rfl
    have HALL := Lib.hid hall
    clear hg hall
    go_wp2_with fail
    refine (new_pdk 156 _ (by omega) (by omega)).mono ?_
    rintro e w2 ⟨d, rfl, hp, hx⟩
    have HF0 := Lib.hid ((hx.block _ (Array.getElem?_eq_some_iff.1 HF0.out).1).trans HF0.out)
    have HP2 := Lib.hid hp
    have HX2 := Lib.hid hx
    clear hp hx
    go_wp2_with fail
    refine (rnew_yes 156 w2 (by omega) (by omega)).mono ?_
    rintro e w3 ⟨q, p, rfl, hr, hlw, hx⟩
    have HF0 := Lib.hid ((hx.block _ (Array.getElem?_eq_some_iff.1 HF0.out).1).trans HF0.out)
    have HB := Lib.hid (Both.new HE.out HP2.out HX2.out hr hlw hx)
    clear hr hlw hx HP2 HX2
    obtain ⟨⟨f0, f1, f2⟩, _⟩ := three_cells HF0.out
    go_wp2_with fail
    have hge3 := HB.out.dk.bel.size
    have HN := Lib.hid (Kp.new HB.out (.cells #[.int .i64 fa, .int .i64 fb, .int .i64 fc] 76))
    have HB := Lib.hid (HB.out.ext ((Ext.refl w3).alloc (.cells #[.int .i64 fa, .int .i64 fb, .int .i64 fc] 76)))
    have HGN := Lib.hid hge3
    clear hge3
    clear f0 f1 f2 HF0
    generalize (w3.alloc (.cells #[.int .i64 fa, .int .i64 fb, .int .i64 fc] 76)) = W0 at *
    generalize w3.heap.size = gN at *
    go_loopw [12] (fun i wr => ∃ (k : Nat) (F : Nat → Prop) (p : Nat → Nat) (M : DM) (na nb nc : Int), k ≤ n ∧ i = .int .i64 k ∧ Hid (Both w wr d q F p M M) ∧ Hid (M.size = 156 ∧ M.waits.length ≤ 3 * k) ∧ Hid (Kp wr F p gN (.cells #[.int .i64 na, .int .i64 nb, .int .i64 nc] 76))) (fun i _ => n - (intOf i).toNat)
    case atStart => exact ⟨0, _, p, DM.new 156, fa, fb, fc, Nat.zero_le _, rfl, HB, Lib.hid ⟨by simp [DM.new, DM.size], Nat.le_refl _⟩, HN⟩
    case round =>
      obtain ⟨k, F, p, M, na, nb, nc, hkn, rfl, HB, HM, HN⟩ := hrel
      by_cases hlt : k < n
      · obtain ⟨gl, o, a, rfl, hgl, ha, h0⟩ := HA.out.at_ hlt
        have HAL := Lib.hid (HALL.out a (List.mem_of_getElem? ha))
        have HOK := Lib.hid (HO.out a (List.mem_of_getElem? ha))
        have hklt := HOK.out.lt
        have c0 : wr.cell? ⟨gl, o + k * 15, none⟩ = some (.int .u8 (a.k : Int)) := (Below.cell HB.out.dk.bel (p := ⟨gl, o + k * 15, none⟩) hgl).trans (h0 0 _ rfl)
        have c1 : wr.cell? ⟨gl, o + k * 15 + 1, none⟩ = some (.int .i64 a.x) := (Below.cell HB.out.dk.bel (p := ⟨gl, o + k * 15 + 1, none⟩) hgl).trans (h0 1 _ rfl)
        have c2 : wr.cell? ⟨gl, o + k * 15 + 2, none⟩ = some (.int .i64 a.y) := (Below.cell HB.out.dk.bel (p := ⟨gl, o + k * 15 + 2, none⟩) hgl).trans (h0 2 _ rfl)
        have c3 : wr.cell? ⟨gl, o + k * 15 + 3, none⟩ = some (.bool a.o.sl) := (Below.cell HB.out.dk.bel (p := ⟨gl, o + k * 15 + 3, none⟩) hgl).trans (h0 3 _ rfl)
        have c4 : wr.cell? ⟨gl, o + k * 15 + 4, none⟩ = some (.int .i64 a.o.ta) := (Below.cell HB.out.dk.bel (p := ⟨gl, o + k * 15 + 4, none⟩) hgl).trans (h0 4 _ rfl)
        have c5 : wr.cell? ⟨gl, o + k * 15 + 5, none⟩ = some (.int .i64 a.o.tb) := (Below.cell HB.out.dk.bel (p := ⟨gl, o + k * 15 + 5, none⟩) hgl).trans (h0 5 _ rfl)
        have c6 : wr.cell? ⟨gl, o + k * 15 + 6, none⟩ = some (.int .i64 a.o.tc) := (Below.cell HB.out.dk.bel (p := ⟨gl, o + k * 15 + 6, none⟩) hgl).trans (h0 6 _ rfl)
        have c7 : wr.cell? ⟨gl, o + k * 15 + 7, none⟩ = some (.int .i64 a.o.td) := (Below.cell HB.out.dk.bel (p := ⟨gl, o + k * 15 + 7, none⟩) hgl).trans (h0 7 _ rfl)
        have c8 : wr.cell? ⟨gl, o + k * 15 + 8, none⟩ = some (.int .i64 a.o.te) := (Below.cell HB.out.dk.bel (p := ⟨gl, o + k * 15 + 8, none⟩) hgl).trans (h0 8 _ rfl)
        have c9 : wr.cell? ⟨gl, o + k * 15 + 9, none⟩ = some (.slice a.o.bA a.o.bn a.o.bc) := (Below.cell HB.out.dk.bel (p := ⟨gl, o + k * 15 + 9, none⟩) hgl).trans (h0 9 _ rfl)
        have c10 : wr.cell? ⟨gl, o + k * 15 + 10, none⟩ = some (.int .u8 (a.o.act.kind : Int)) := (Below.cell HB.out.dk.bel (p := ⟨gl, o + k * 15 + 10, none⟩) hgl).trans (h0 10 _ rfl)
        have c11 : wr.cell? ⟨gl, o + k * 15 + 11, none⟩ = some (.int .i64 a.o.act.sec) := (Below.cell HB.out.dk.bel (p := ⟨gl, o + k * 15 + 11, none⟩) hgl).trans (h0 11 _ rfl)
        have c12 : wr.cell? ⟨gl, o + k * 15 + 12, none⟩ = some (.int .i64 a.o.act.num) := (Below.cell HB.out.dk.bel (p := ⟨gl, o + k * 15 + 12, none⟩) hgl).trans (h0 12 _ rfl)
        have c13 : wr.cell? ⟨gl, o + k * 15 + 13, none⟩ = some (.slice a.o.act.bA a.o.act.bn a.o.act.bc) := (Below.cell HB.out.dk.bel (p := ⟨gl, o + k * 15 + 13, none⟩) hgl).trans (h0 13 _ rfl)
        have c14 : wr.cell? ⟨gl, o + k * 15 + 14, none⟩ = some (.slice a.o.act.kA a.o.act.kn a.o.act.kc) := (Below.cell HB.out.dk.bel (p := ⟨gl, o + k * 15 + 14, none⟩) hgl).trans (h0 14 _ rfl)
        have hk1 := Kp.new HB.out (.cells #[.int .u8 (a.k : Int), .int .i64 a.x, .int .i64 a.y, .bool a.o.sl, .int .i64 a.o.ta, .int .i64 a.o.tb, .int .i64 a.o.tc, .int .i64 a.o.td, .int .i64 a.o.te, .slice a.o.bA a.o.bn a.o.bc, .int .u8 (a.o.act.kind : Int), .int .i64 a.o.act.sec, .int .i64 a.o.act.num, .slice a.o.act.bA a.o.act.bn a.o.act.bc, .slice a.o.act.kA a.o.act.kn a.o.act.kc] 80)
        have hb1 := HB.out.ext ((Ext.refl wr).alloc (.cells #[.int .u8 (a.k : Int), .int .i64 a.x, .int .i64 a.y, .bool a.o.sl, .int .i64 a.o.ta, .int .i64 a.o.tb, .int .i64 a.o.tc, .int .i64 a.o.td, .int .i64 a.o.te, .slice a.o.bA a.o.bn a.o.bc, .int .u8 (a.o.act.kind : Int), .int .i64 a.o.act.sec, .int .i64 a.o.act.num, .slice a.o.act.bA a.o.act.bn a.o.act.bc, .slice a.o.act.kA a.o.act.kn a.o.act.kc] 80))
        have hk2 := Kp.new hb1 (.cells #[.int .i64 0, .int .i64 0, .int .i64 0] 76)
        have hb2 := hb1.ext ((Ext.refl _).alloc (.cells #[.int .i64 0, .int .i64 0, .int .i64 0] 76))
        have hk3 := Kp.new hb2 (.cells #[.int .i64 0, .int .i64 0, .int .i64 0] 76)
        have s1 : (wr.alloc (.cells #[.int .u8 (a.k : Int), .int .i64 a.x, .int .i64 a.y, .bool a.o.sl, .int .i64 a.o.ta, .int .i64 a.o.tb, .int .i64 a.o.tc, .int .i64 a.o.td, .int .i64 a.o.te, .slice a.o.bA a.o.bn a.o.bc, .int .u8 (a.o.act.kind : Int), .int .i64 a.o.act.sec, .int .i64 a.o.act.num, .slice a.o.act.bA a.o.act.bn a.o.act.bc, .slice a.o.act.kA a.o.act.kn a.o.act.kc] 80)).heap.size = wr.heap.size + 1 := by simp
        have s2 : ((wr.alloc (.cells #[.int .u8 (a.k : Int), .int .i64 a.x, .int .i64 a.y, .bool a.o.sl, .int .i64 a.o.ta, .int .i64 a.o.tb, .int .i64 a.o.tc, .int .i64 a.o.td, .int .i64 a.o.te, .slice a.o.bA a.o.bn a.o.bc, .int .u8 (a.o.act.kind : Int), .int .i64 a.o.act.sec, .int .i64 a.o.act.num, .slice a.o.act.bA a.o.act.bn a.o.act.bc, .slice a.o.act.kA a.o.act.kn a.o.act.kc] 80)).alloc (.cells #[.int .i64 0, .int .i64 0, .int .i64 0] 76)).heap.size = wr.heap.size + 1 + 1 := by simp
        rw [s1] at hk2
        rw [s2] at hk3
        have HS := Lib.hid ((hk1.ext ((Ext.refl _).alloc (.cells #[.int .i64 0, .int .i64 0, .int .i64 0] 76))).ext ((Ext.refl _).alloc (.cells #[.int .i64 0, .int .i64 0, .int .i64 0] 76)))
        have HX := Lib.hid (hk2.ext ((Ext.refl _).alloc (.cells #[.int .i64 0, .int .i64 0, .int .i64 0] 76)))
        have HY := Lib.hid hk3
        have hlN := HN.out.lt
        have HN := Lib.hid (((HN.out.ext ((Ext.refl wr).alloc (.cells #[.int .u8 (a.k : Int), .int .i64 a.x, .int .i64 a.y, .bool a.o.sl, .int .i64 a.o.ta, .int .i64 a.o.tb, .int .i64 a.o.tc, .int .i64 a.o.td, .int .i64 a.o.te, .slice a.o.bA a.o.bn a.o.bc, .int .u8 (a.o.act.kind : Int), .int .i64 a.o.act.sec, .int .i64 a.o.act.num, .slice a.o.act.bA a.o.act.bn a.o.act.bc, .slice a.o.act.kA a.o.act.kn a.o.act.kc] 80))).ext ((Ext.refl _).alloc (.cells #[.int .i64 0, .int .i64 0, .int .i64 0] 76))).ext ((Ext.refl _).alloc (.cells #[.int .i64 0, .int .i64 0, .int .i64 0] 76)))
        have hwr := HB.out.dk.bel.size
        have HB := Lib.hid (hb2.ext ((Ext.refl _).alloc (.cells #[.int .i64 0, .int .i64 0, .int .i64 0] 76)))
        have HDF : Hid (gN < wr.heap.size ∧ wr.heap.size < wr.heap.size + 1 ∧ wr.heap.size + 1 < wr.heap.size + 1 + 1) := Lib.hid (by omega)
        have HGE : Hid (w.heap.size ≤ gN ∧ w.heap.size ≤ wr.heap.size ∧ w.heap.size ≤ wr.heap.size + 1 ∧ w.heap.size ≤ wr.heap.size + 1 + 1) := Lib.hid (by have := HGN.out; omega)
        clear h0 ha hk1 hk2 hk3 hb1 hb2 s1 s2 hlN hwr
        go_upto_region 17 with (fail)
        clear c0 c1 c2 c3 c4 c5 c6 c7 c8 c9 c10 c11 c12 c13 c14
        generalize (((wr.alloc (.cells #[.int .u8 (a.k : Int), .int .i64 a.x, .int .i64 a.y, .bool a.o.sl, .int .i64 a.o.ta, .int .i64 a.o.tb, .int .i64 a.o.tc, .int .i64 a.o.td, .int .i64 a.o.te, .slice a.o.bA a.o.bn a.o.bc, .int .u8 (a.o.act.kind : Int), .int .i64 a.o.act.sec, .int .i64 a.o.act.num, .slice a.o.act.bA a.o.act.bn a.o.act.bc, .slice a.o.act.kA a.o.act.kn a.o.act.kc] 80)).alloc (.cells #[.int .i64 0, .int .i64 0, .int .i64 0] 76)).alloc (.cells #[.int .i64 0, .int .i64 0, .int .i64 0] 76)) = V at *
        generalize wr.heap.size + 1 + 1 = gY at *
        generalize wr.heap.size + 1 = gX at *
        generalize wr.heap.size = gS at *
        by_cases h0 : a.k % 4 = 0
        · have hk0 : ((a.k : Int) % 4 == 0) = true := by simp; omega
          clear h0
          have hok2 : (M.beginK r).m.size = 156 ∧ (M.beginK r).m.waits.length ≤ 3 * (k + 1) := by
            have h1 := beginK_more M r
            have h2 := HM.out
            exact ⟨h1.2.trans h2.1, by omega⟩
          have hst := Begin_anyK HB.out.dk.disk (HL.out.ext HB.out.dk.bel) (HB.out.dk.laid HL.out) HM.out.1 r (by have := HM.out.2; omega)
          have hsr := fun (V1 : World) (F1 : Nat → Prop) (M1 : DM) (hb : Both w V1 d q F1 p M1 M) => rbegin_anyK hb.rd r (by have := HM.out.2; omega)
          generalize (M.beginK r) = U at hst hsr hok2
          have HST := Lib.hid hst
          have HSR := Lib.hid hsr
          have HM2 := Lib.hid hok2
          clear hst hsr hok2
          obtain ⟨⟨x0, x1, x2⟩, xf0, xf1, xf2⟩ := three_cells HX.out.row
          go_wp2_with fail
          refine HST.out.mono ?_
          rintro e wb ⟨rfl, hs⟩
          clear x0 x1 x2 xf0 xf1 xf2
          have HN := Lib.hid (HN.out.step hs.2)
          have HS := Lib.hid (HS.out.step hs.2)
          have HX := Lib.hid (HX.out.step hs.2)
          have HY := Lib.hid (HY.out.step hs.2)
          have HB := Lib.hid (Both.of_step HB.out hs)
          clear hs
          obtain ⟨⟨x0, x1, x2⟩, xf0, xf1, xf2⟩ := three_cells HX.out.row
          have hmod := three_mod (w := wb) gX (.int .i64 U.a) (.int .i64 U.b) (.int .i64 U.c)
          have HBb := Lib.hid (HB.out.own hmod (fun i hi he => by subst he; exact HX.out.off hi) (fun i hi he => by subst he; exact hi HX.out.pz) (fun i hi => by rw [hi]; exact HGE.out.2.2.1))
          have HNb := Lib.hid (HN.out.mod hmod (by have := HDF.out; omega))
          have HSb := Lib.hid (HS.out.mod hmod (by have := HDF.out; omega))
          have HXb : Hid (Kp _ _ _ gX (.cells #[.int .i64 U.a, .int .i64 U.b, .int .i64 U.c] 76)) := Lib.hid ⟨three_row HX.out.row (.int .i64 U.a) (.int .i64 U.b) (.int .i64 U.c), HX.out.off, HX.out.pz⟩
          have HYb := Lib.hid (HY.out.mod hmod (by have := HDF.out; omega))
          clear hmod
          go_upto_region 19 with (fail)
          generalize (((wb.setCell ⟨gX, 0, none⟩ (.int .i64 U.a)).setCell ⟨gX, 1, none⟩ (.int .i64 U.b)).setCell ⟨gX, 2, none⟩ (.int .i64 U.c)) = wx at *
          have HB := HBb
          have HN := HNb
          have HS := HSb
          have HX := HXb
          have HY := HYb
          clear HBb HNb HSb HXb HYb
          clear x0 x1 x2 xf0 xf1 xf2
          obtain ⟨⟨y0, y1, y2⟩, yf0, yf1, yf2⟩ := three_cells HY.out.row
          go_wp2_with fail
          refine (HSR.out _ _ _ HB.out).mono ?_
          rintro e wc ⟨rfl, hs⟩
          clear y0 y1 y2 yf0 yf1 yf2
          obtain ⟨p2, hb2, hkk⟩ := both_out HB.out hs
          have HN := Lib.hid (hkk _ _ HN.out)
          have HS := Lib.hid (hkk _ _ HS.out)
          have HX := Lib.hid (hkk _ _ HX.out)
          have HY := Lib.hid (hkk _ _ HY.out)
          have HB := Lib.hid hb2
          clear hs hb2 hkk
          obtain ⟨⟨y0, y1, y2⟩, yf0, yf1, yf2⟩ := three_cells HY.out.row
          have hmod := three_mod (w := wc) gY (.int .i64 U.a) (.int .i64 U.b) (.int .i64 U.c)
          have HBb := Lib.hid (HB.out.own hmod (fun i hi he => by subst he; exact HY.out.off hi) (fun i hi he => by subst he; exact hi HY.out.pz) (fun i hi => by rw [hi]; exact HGE.out.2.2.2))
          have HNb := Lib.hid (HN.out.mod hmod (by have := HDF.out; omega))
          have HSb := Lib.hid (HS.out.mod hmod (by have := HDF.out; omega))
          have HXb := Lib.hid (HX.out.mod hmod (by have := HDF.out; omega))
          have HYb : Hid (Kp _ _ _ gY (.cells #[.int .i64 U.a, .int .i64 U.b, .int .i64 U.c] 76)) := Lib.hid ⟨three_row HY.out.row (.int .i64 U.a) (.int .i64 U.b) (.int .i64 U.c), HY.out.off, HY.out.pz⟩
          clear hmod
          go_upto_region 23 with (fail)
          generalize (((wc.setCell ⟨gY, 0, none⟩ (.int .i64 U.a)).setCell ⟨gY, 1, none⟩ (.int .i64 U.b)).setCell ⟨gY, 2, none⟩ (.int .i64 U.c)) = wy at *
          have HB := HBb
          have HN := HNb
          have HS := HSb
          have HX := HXb
          have HY := HYb
          clear HBb HNb HSb HXb HYb
          clear y0 y1 y2 yf0 yf1 yf2
          obtain ⟨⟨x0, x1, x2⟩, xf0, xf1, xf2⟩ := three_cells HX.out.row
          obtain ⟨⟨y0, y1, y2⟩, yf0, yf1, yf2⟩ := three_cells HY.out.row
          have hne := fun a b c a' b' c' => meta_neqK a b c a' b' c'
          by_cases he : U.e = 0
          · have he2 : (U.e == 0) = true := by simpa using he
            clear he
            go_upto_region 26 with (fail)
            clear x0 x1 x2 xf0 xf1 xf2 y0 y1 y2 yf0 yf1 yf2
            clear hne
            obtain ⟨⟨y0, y1, y2⟩, yf0, yf1, yf2⟩ := three_cells HY.out.row
            obtain ⟨⟨n0, n1, n2⟩, nf0, nf1, nf2⟩ := three_cells HN.out.row
            have hmod := three_mod (w := wy) gN (.int .i64 U.a) (.int .i64 U.b) (.int .i64 U.c)
            have HBb := Lib.hid (HB.out.own hmod (fun i hi he => by subst he; exact HN.out.off hi) (fun i hi he => by subst he; exact hi HN.out.pz) (fun i hi => by rw [hi]; exact HGE.out.1))
            have HNb : Hid (Kp _ _ _ gN (.cells #[.int .i64 U.a, .int .i64 U.b, .int .i64 U.c] 76)) := Lib.hid ⟨three_row HN.out.row (.int .i64 U.a) (.int .i64 U.b) (.int .i64 U.c), HN.out.off, HN.out.pz⟩
            have HSb := Lib.hid (HS.out.mod hmod (by have := HDF.out; omega))
            have HXb := Lib.hid (HX.out.mod hmod (by have := HDF.out; omega))
            have HYb := Lib.hid (HY.out.mod hmod (by have := HDF.out; omega))
            clear hmod
            go_upto_region 27 with (fail)
            generalize (((wy.setCell ⟨gN, 0, none⟩ (.int .i64 U.a)).setCell ⟨gN, 1, none⟩ (.int .i64 U.b)).setCell ⟨gN, 2, none⟩ (.int .i64 U.c)) = wn at *
            have HB := HBb
            have HN := HNb
            have HS := HSb
            have HX := HXb
            have HY := HYb
            clear HBb HNb HSb HXb HYb
            clear y0 y1 y2 yf0 yf1 yf2 n0 n1 n2 nf0 nf1 nf2
            go_wp2_with fail
            go_loopw [18] (fun i wi => ∃ s : Nat, s ≤ 4 ∧ i = .int .i64 s ∧ Hid (Ext wn wi)) (fun i _ => 4 - (intOf i).toNat)
            case atStart => exact ⟨0, Nat.zero_le _, rfl, Lib.hid (Ext.refl _)⟩
            case round =>
              obtain ⟨s, hsn, rfl, HXI⟩ := hrel
              by_cases hs4 : s < 4
              · have HC3 := Lib.hid (rest_pd (HB.out.ext HXI.out).dk.disk (s : Int))
                have HC4 := Lib.hid fun (w1 : World) (kx : Ext wr w1) => rat_out ((HB.out.ext (HXI.out.trans kx)).rd) (s : Int)
                obtain ⟨l2, lo, E2, hl2⟩ : ∃ l b E, U.m.at_ (s : Int) = (l, b, E) := ⟨_, _, _, rfl⟩
                rw [hl2] at HC3 HC4
                clear hl2
                go_wp2_with fail
                refine HC3.out.mono ?_
                rintro e w1 ⟨A1, n1, rfl, hb1, hx⟩
                have HB1 := Lib.hid hb1.by
                have HX1 := Lib.hid hx
                clear hb1 hx
                go_wp2_with fail
                refine (HC4.out _ HX1.out).mono ?_
                rintro e w2 ⟨A2, n2, c2, rfl, hb2, hx⟩
                have HB2 := Lib.hid hb2
                have HB1 := Lib.hid (HB1.out.ext hx)
                have HX1 := Lib.hid (HX1.out.trans hx)
                clear hb2 hx
                cases lo <;>
                · go_wp2_with fail
                  refine (same_by A1 A2 l2 l2 _ _ _ _ _ HB1.out HB2.out).mono ?_
                  rw [decide_eq_true (rfl : l2 = l2)]
                  rintro e w3 ⟨rfl, hx⟩
                  have HXI := Lib.hid ((HXI.out.trans HX1.out).trans hx)
                  clear hx
                  go_wp2_with fail
                  go_roundw
                  case rel => exact ⟨s + 1, by omega, by go_num, HXI⟩
                  case measure => simp [intOf]; omega
              · go_wp2_with fail
                go_roundw
                case rel => exact ⟨k + 1, _, _, U.m, U.a, U.b, U.c, by omega, by go_num, Lib.hid (HB.out.ext HXI.out), HM2, Lib.hid (HN.out.ext HXI.out)⟩
                case measure => simp [intOf]; omega
          · have he2 : (U.e == 0) = false := by simpa using he
            clear he
            go_upto_region 27 with (fail)
            clear x0 x1 x2 xf0 xf1 xf2 y0 y1 y2 yf0 yf1 yf2
            clear hne
            generalize wy = wn at *
            go_wp2_with fail
            go_loopw [18] (fun i wi => ∃ s : Nat, s ≤ 4 ∧ i = .int .i64 s ∧ Hid (Ext wn wi)) (fun i _ => 4 - (intOf i).toNat)
            case atStart => exact ⟨0, Nat.zero_le _, rfl, Lib.hid (Ext.refl _)⟩
            case round =>
              obtain ⟨s, hsn, rfl, HXI⟩ := hrel
              by_cases hs4 : s < 4
              · have HC3 := Lib.hid (rest_pd (HB.out.ext HXI.out).dk.disk (s : Int))
                have HC4 := Lib.hid fun (w1 : World) (kx : Ext wr w1) => rat_out ((HB.out.ext (HXI.out.trans kx)).rd) (s : Int)
                obtain ⟨l2, lo, E2, hl2⟩ : ∃ l b E, U.m.at_ (s : Int) = (l, b, E) := ⟨_, _, _, rfl⟩
                rw [hl2] at HC3 HC4
                clear hl2
                go_wp2_with fail
                refine HC3.out.mono ?_
                rintro e w1 ⟨A1, n1, rfl, hb1, hx⟩
                have HB1 := Lib.hid hb1.by
                have HX1 := Lib.hid hx
                clear hb1 hx
                go_wp2_with fail
                refine (HC4.out _ HX1.out).mono ?_
                rintro e w2 ⟨A2, n2, c2, rfl, hb2, hx⟩
                have HB2 := Lib.hid hb2
                have HB1 := Lib.hid (HB1.out.ext hx)
                have HX1 := Lib.hid (HX1.out.trans hx)
                clear hb2 hx
                cases lo <;>
                · go_wp2_with fail
                  refine (same_by A1 A2 l2 l2 _ _ _ _ _ HB1.out HB2.out).mono ?_
                  rw [decide_eq_true (rfl : l2 = l2)]
                  rintro e w3 ⟨rfl, hx⟩
                  have HXI := Lib.hid ((HXI.out.trans HX1.out).trans hx)
                  clear hx
                  go_wp2_with fail
                  go_roundw
                  case rel => exact ⟨s + 1, by omega, by go_num, HXI⟩
                  case measure => simp [intOf]; omega
              · go_wp2_with fail
                go_roundw
                case rel => exact ⟨k + 1, _, _, U.m, na, nb, nc, by omega, by go_num, Lib.hid (HB.out.ext HXI.out), HM2, Lib.hid (HN.out.ext HXI.out)⟩
                case measure => simp [intOf]; omega
        · by_cases h1 : a.k % 4 = 1
          · have hk0 : ((a.k : Int) % 4 == 0) = false := by simp; omega
            have hk1 : ((a.k : Int) % 4 == 1) = true := by simp; omega
            clear h0 h1
            have hok2 : (M.promK r na nb nc a.x a.y).m.size = 156 ∧ (M.promK r na nb nc a.x a.y).m.waits.length ≤ 3 * (k + 1) := by
              have h1 := promK_more M r na nb nc a.x a.y
              have h2 := HM.out
              exact ⟨h1.2.trans h2.1, by omega⟩
            have hst := Promise_anyK HB.out.dk.disk (HL.out.ext HB.out.dk.bel) (HB.out.dk.laid HL.out) HM.out.1 r na nb nc a.x a.y (by have := HM.out.2; omega)
            have hsr := fun (V1 : World) (F1 : Nat → Prop) (M1 : DM) (hb : Both w V1 d q F1 p M1 M) => rprom_anyK hb.rd r na nb nc a.x a.y (by have := HM.out.2; omega)
            generalize (M.promK r na nb nc a.x a.y) = U at hst hsr hok2
            have HST := Lib.hid hst
            have HSR := Lib.hid hsr
            have HM2 := Lib.hid hok2
            clear hst hsr hok2
            obtain ⟨⟨x0, x1, x2⟩, xf0, xf1, xf2⟩ := three_cells HX.out.row
            obtain ⟨⟨n0, n1, n2⟩, nf0, nf1, nf2⟩ := three_cells HN.out.row
            obtain ⟨s0, s1, s2, s3, s4, s5, s6, s7, s8, s9, s10, s11, s12, s13, s14⟩ := c15K HS.out.row
            go_wp2_with fail
            refine HST.out.mono ?_
            rintro e wb ⟨rfl, hs⟩
            clear x0 x1 x2 xf0 xf1 xf2
            clear n0 n1 n2 nf0 nf1 nf2 s0 s1 s2 s3 s4 s5 s6 s7 s8 s9 s10 s11 s12 s13 s14
            have HN := Lib.hid (HN.out.step hs.2)
            have HS := Lib.hid (HS.out.step hs.2)
            have HX := Lib.hid (HX.out.step hs.2)
            have HY := Lib.hid (HY.out.step hs.2)
            have HB := Lib.hid (Both.of_step HB.out hs)
            clear hs
            obtain ⟨⟨x0, x1, x2⟩, xf0, xf1, xf2⟩ := three_cells HX.out.row
            have hmod := three_mod (w := wb) gX (.int .i64 U.a) (.int .i64 U.b) (.int .i64 U.c)
            have HBb := Lib.hid (HB.out.own hmod (fun i hi he => by subst he; exact HX.out.off hi) (fun i hi he => by subst he; exact hi HX.out.pz) (fun i hi => by rw [hi]; exact HGE.out.2.2.1))
            have HNb := Lib.hid (HN.out.mod hmod (by have := HDF.out; omega))
            have HSb := Lib.hid (HS.out.mod hmod (by have := HDF.out; omega))
            have HXb : Hid (Kp _ _ _ gX (.cells #[.int .i64 U.a, .int .i64 U.b, .int .i64 U.c] 76)) := Lib.hid ⟨three_row HX.out.row (.int .i64 U.a) (.int .i64 U.b) (.int .i64 U.c), HX.out.off, HX.out.pz⟩
            have HYb := Lib.hid (HY.out.mod hmod (by have := HDF.out; omega))
            clear hmod
            go_upto_region 22 with (fail)
            generalize (((wb.setCell ⟨gX, 0, none⟩ (.int .i64 U.a)).setCell ⟨gX, 1, none⟩ (.int .i64 U.b)).setCell ⟨gX, 2, none⟩ (.int .i64 U.c)) = wx at *
            have HB := HBb
            have HN := HNb
            have HS := HSb
            have HX := HXb
            have HY := HYb
            clear HBb HNb HSb HXb HYb
            clear x0 x1 x2 xf0 xf1 xf2
            obtain ⟨⟨y0, y1, y2⟩, yf0, yf1, yf2⟩ := three_cells HY.out.row
            obtain ⟨⟨n0, n1, n2⟩, nf0, nf1, nf2⟩ := three_cells HN.out.row
            obtain ⟨s0, s1, s2, s3, s4, s5, s6, s7, s8, s9, s10, s11, s12, s13, s14⟩ := c15K HS.out.row
            go_wp2_with fail
            refine (HSR.out _ _ _ HB.out).mono ?_
            rintro e wc ⟨rfl, hs⟩
            clear y0 y1 y2 yf0 yf1 yf2
            clear n0 n1 n2 nf0 nf1 nf2 s0 s1 s2 s3 s4 s5 s6 s7 s8 s9 s10 s11 s12 s13 s14
            obtain ⟨p2, hb2, hkk⟩ := both_out HB.out hs
            have HN := Lib.hid (hkk _ _ HN.out)
            have HS := Lib.hid (hkk _ _ HS.out)
            have HX := Lib.hid (hkk _ _ HX.out)
            have HY := Lib.hid (hkk _ _ HY.out)
            have HB := Lib.hid hb2
            clear hs hb2 hkk
            obtain ⟨⟨y0, y1, y2⟩, yf0, yf1, yf2⟩ := three_cells HY.out.row
            have hmod := three_mod (w := wc) gY (.int .i64 U.a) (.int .i64 U.b) (.int .i64 U.c)
            have HBb := Lib.hid (HB.out.own hmod (fun i hi he => by subst he; exact HY.out.off hi) (fun i hi he => by subst he; exact hi HY.out.pz) (fun i hi => by rw [hi]; exact HGE.out.2.2.2))
            have HNb := Lib.hid (HN.out.mod hmod (by have := HDF.out; omega))
            have HSb := Lib.hid (HS.out.mod hmod (by have := HDF.out; omega))
            have HXb := Lib.hid (HX.out.mod hmod (by have := HDF.out; omega))
            have HYb : Hid (Kp _ _ _ gY (.cells #[.int .i64 U.a, .int .i64 U.b, .int .i64 U.c] 76)) := Lib.hid ⟨three_row HY.out.row (.int .i64 U.a) (.int .i64 U.b) (.int .i64 U.c), HY.out.off, HY.out.pz⟩
            clear hmod
            go_upto_region 23 with (fail)
            generalize (((wc.setCell ⟨gY, 0, none⟩ (.int .i64 U.a)).setCell ⟨gY, 1, none⟩ (.int .i64 U.b)).setCell ⟨gY, 2, none⟩ (.int .i64 U.c)) = wy at *
            have HB := HBb
            have HN := HNb
            have HS := HSb
            have HX := HXb
            have HY := HYb
            clear HBb HNb HSb HXb HYb
            clear y0 y1 y2 yf0 yf1 yf2
            obtain ⟨⟨x0, x1, x2⟩, xf0, xf1, xf2⟩ := three_cells HX.out.row
            obtain ⟨⟨y0, y1, y2⟩, yf0, yf1, yf2⟩ := three_cells HY.out.row
            have hne := fun a b c a' b' c' => meta_neqK a b c a' b' c'
            by_cases he : U.e = 0
            · have he2 : (U.e == 0) = true := by simpa using he
              clear he
              go_upto_region 26 with (fail)
              clear x0 x1 x2 xf0 xf1 xf2 y0 y1 y2 yf0 yf1 yf2
              clear hne
              obtain ⟨⟨y0, y1, y2⟩, yf0, yf1, yf2⟩ := three_cells HY.out.row
              obtain ⟨⟨n0, n1, n2⟩, nf0, nf1, nf2⟩ := three_cells HN.out.row
              have hmod := three_mod (w := wy) gN (.int .i64 U.a) (.int .i64 U.b) (.int .i64 U.c)
              have HBb := Lib.hid (HB.out.own hmod (fun i hi he => by subst he; exact HN.out.off hi) (fun i hi he => by subst he; exact hi HN.out.pz) (fun i hi => by rw [hi]; exact HGE.out.1))
              have HNb : Hid (Kp _ _ _ gN (.cells #[.int .i64 U.a, .int .i64 U.b, .int .i64 U.c] 76)) := Lib.hid ⟨three_row HN.out.row (.int .i64 U.a) (.int .i64 U.b) (.int .i64 U.c), HN.out.off, HN.out.pz⟩
              have HSb := Lib.hid (HS.out.mod hmod (by have := HDF.out; omega))
              have HXb := Lib.hid (HX.out.mod hmod (by have := HDF.out; omega))
              have HYb := Lib.hid (HY.out.mod hmod (by have := HDF.out; omega))
              clear hmod
              go_upto_region 27 with (fail)
              generalize (((wy.setCell ⟨gN, 0, none⟩ (.int .i64 U.a)).setCell ⟨gN, 1, none⟩ (.int .i64 U.b)).setCell ⟨gN, 2, none⟩ (.int .i64 U.c)) = wn at *
              have HB := HBb
              have HN := HNb
              have HS := HSb
              have HX := HXb
              have HY := HYb
              clear HBb HNb HSb HXb HYb
              clear y0 y1 y2 yf0 yf1 yf2 n0 n1 n2 nf0 nf1 nf2
              go_wp2_with fail
              go_loopw [18] (fun i wi => ∃ s : Nat, s ≤ 4 ∧ i = .int .i64 s ∧ Hid (Ext wn wi)) (fun i _ => 4 - (intOf i).toNat)
              case atStart => exact ⟨0, Nat.zero_le _, rfl, Lib.hid (Ext.refl _)⟩
              case round =>
                obtain ⟨s, hsn, rfl, HXI⟩ := hrel
                by_cases hs4 : s < 4
                · have HC3 := Lib.hid (rest_pd (HB.out.ext HXI.out).dk.disk (s : Int))
                  have HC4 := Lib.hid fun (w1 : World) (kx : Ext wr w1) => rat_out ((HB.out.ext (HXI.out.trans kx)).rd) (s : Int)
                  obtain ⟨l2, lo, E2, hl2⟩ : ∃ l b E, U.m.at_ (s : Int) = (l, b, E) := ⟨_, _, _, rfl⟩
                  rw [hl2] at HC3 HC4
                  clear hl2
                  go_wp2_with fail
                  refine HC3.out.mono ?_
                  rintro e w1 ⟨A1, n1, rfl, hb1, hx⟩
                  have HB1 := Lib.hid hb1.by
                  have HX1 := Lib.hid hx
                  clear hb1 hx
                  go_wp2_with fail
                  refine (HC4.out _ HX1.out).mono ?_
                  rintro e w2 ⟨A2, n2, c2, rfl, hb2, hx⟩
                  have HB2 := Lib.hid hb2
                  have HB1 := Lib.hid (HB1.out.ext hx)
                  have HX1 := Lib.hid (HX1.out.trans hx)
                  clear hb2 hx
                  cases lo <;>
                  · go_wp2_with fail
                    refine (same_by A1 A2 l2 l2 _ _ _ _ _ HB1.out HB2.out).mono ?_
                    rw [decide_eq_true (rfl : l2 = l2)]
                    rintro e w3 ⟨rfl, hx⟩
                    have HXI := Lib.hid ((HXI.out.trans HX1.out).trans hx)
                    clear hx
                    go_wp2_with fail
                    go_roundw
                    case rel => exact ⟨s + 1, by omega, by go_num, HXI⟩
                    case measure => simp [intOf]; omega
                · go_wp2_with fail
                  go_roundw
                  case rel => exact ⟨k + 1, _, _, U.m, U.a, U.b, U.c, by omega, by go_num, Lib.hid (HB.out.ext HXI.out), HM2, Lib.hid (HN.out.ext HXI.out)⟩
                  case measure => simp [intOf]; omega
            · have he2 : (U.e == 0) = false := by simpa using he
              clear he
              go_upto_region 27 with (fail)
              clear x0 x1 x2 xf0 xf1 xf2 y0 y1 y2 yf0 yf1 yf2
              clear hne
              generalize wy = wn at *
              go_wp2_with fail
              go_loopw [18] (fun i wi => ∃ s : Nat, s ≤ 4 ∧ i = .int .i64 s ∧ Hid (Ext wn wi)) (fun i _ => 4 - (intOf i).toNat)
              case atStart => exact ⟨0, Nat.zero_le _, rfl, Lib.hid (Ext.refl _)⟩
              case round =>
                obtain ⟨s, hsn, rfl, HXI⟩ := hrel
                by_cases hs4 : s < 4
                · have HC3 := Lib.hid (rest_pd (HB.out.ext HXI.out).dk.disk (s : Int))
                  have HC4 := Lib.hid fun (w1 : World) (kx : Ext wr w1) => rat_out ((HB.out.ext (HXI.out.trans kx)).rd) (s : Int)
                  obtain ⟨l2, lo, E2, hl2⟩ : ∃ l b E, U.m.at_ (s : Int) = (l, b, E) := ⟨_, _, _, rfl⟩
                  rw [hl2] at HC3 HC4
                  clear hl2
                  go_wp2_with fail
                  refine HC3.out.mono ?_
                  rintro e w1 ⟨A1, n1, rfl, hb1, hx⟩
                  have HB1 := Lib.hid hb1.by
                  have HX1 := Lib.hid hx
                  clear hb1 hx
                  go_wp2_with fail
                  refine (HC4.out _ HX1.out).mono ?_
                  rintro e w2 ⟨A2, n2, c2, rfl, hb2, hx⟩
                  have HB2 := Lib.hid hb2
                  have HB1 := Lib.hid (HB1.out.ext hx)
                  have HX1 := Lib.hid (HX1.out.trans hx)
                  clear hb2 hx
                  cases lo <;>
                  · go_wp2_with fail
                    refine (same_by A1 A2 l2 l2 _ _ _ _ _ HB1.out HB2.out).mono ?_
                    rw [decide_eq_true (rfl : l2 = l2)]
                    rintro e w3 ⟨rfl, hx⟩
                    have HXI := Lib.hid ((HXI.out.trans HX1.out).trans hx)
                    clear hx
                    go_wp2_with fail
                    go_roundw
                    case rel => exact ⟨s + 1, by omega, by go_num, HXI⟩
                    case measure => simp [intOf]; omega
                · go_wp2_with fail
                  go_roundw
                  case rel => exact ⟨k + 1, _, _, U.m, na, nb, nc, by omega, by go_num, Lib.hid (HB.out.ext HXI.out), HM2, Lib.hid (HN.out.ext HXI.out)⟩
                  case measure => simp [intOf]; omega
          · have hk0 : ((a.k : Int) % 4 == 0) = false := by simp; omega
            have hk1 : ((a.k : Int) % 4 == 1) = false := by simp; omega
            clear h0 h1
            have hok2 : (M.act6 a.o).size = 156 ∧ (M.act6 a.o).waits.length ≤ 3 * (k + 1) := by
              have h1 := act6_waits M a.o
              have h2 := HM.out
              exact ⟨(act6_size M a.o).trans h2.1, by omega⟩
            have hst := do6_any HB.out.dk HL.out.a.t a.o HOK.out.o HAL.out.2.1 (by have := HM.out.2; omega)
            have hsr := fun (V1 : World) (F1 : Nat → Prop) (M1 : DM) (hb : Both w V1 d q F1 p M1 M) => same6_any hb.rd hb.dk.bel hb.low HL.out.a.t a.o HOK.out.o HAL.out.2.1 (by have := HM.out.2; omega)
            generalize M.act6 a.o = M2 at hst hsr hok2
            have HST := Lib.hid hst
            have HSR := Lib.hid hsr
            have HM2 := Lib.hid hok2
            clear hst hsr hok2
            obtain ⟨s0, s1, s2, s3, s4, s5, s6, s7, s8, s9, s10, s11, s12, s13, s14⟩ := c15K HS.out.row
            go_wp2_with fail
            refine HST.out.mono ?_
            rintro e wb ⟨⟨v, rfl⟩, hs⟩
            clear s0 s1 s2 s3 s4 s5 s6 s7 s8 s9 s10 s11 s12 s13 s14
            have HN := Lib.hid (HN.out.step hs.2)
            have HS := Lib.hid (HS.out.step hs.2)
            have HX := Lib.hid (HX.out.step hs.2)
            have HY := Lib.hid (HY.out.step hs.2)
            have HB := Lib.hid (Both.of_step HB.out hs)
            clear hs
            obtain ⟨s0, s1, s2, s3, s4, s5, s6, s7, s8, s9, s10, s11, s12, s13, s14⟩ := c15K HS.out.row
            go_wp2_with fail
            refine (HSR.out _ _ _ HB.out).mono ?_
            rintro e wc ⟨⟨v2, rfl⟩, hs⟩
            clear s0 s1 s2 s3 s4 s5 s6 s7 s8 s9 s10 s11 s12 s13 s14
            obtain ⟨p2, hb2, hkk⟩ := both_out HB.out hs
            have HN := Lib.hid (hkk _ _ HN.out)
            have HS := Lib.hid (hkk _ _ HS.out)
            have HX := Lib.hid (hkk _ _ HX.out)
            have HY := Lib.hid (hkk _ _ HY.out)
            have HB := Lib.hid hb2
            clear hs hb2 hkk
            go_wp2_with fail
            go_roundw
            case rel => exact ⟨k + 1, _, _, M2, na, nb, nc, by omega, by go_num, HB, HM2, HN⟩
            case measure => simp [intOf]; omega
      · obtain ⟨A3, c3, hw3⟩ := rd_waitK HB.out.rd
        have hwt := fun V (hx : Ext wr V) => waits_pd (HB.out.ext hx).dk.disk
        generalize M.waits.length = WL at hw3 hwt
        have HWT := Lib.hid hwt
        have hs : wr.drew.cell? ⟨q, 3, none⟩ = some (.slice A3 WL c3) := Ext.cell (Ext.refl wr).drew hw3
        clear hwt
        go_wp2_with fail
        go_region_held3 (fun w' => w'.cell? ⟨q, 3, none⟩ = some (.slice A3 WL c3))
          (exact hs)
          (first
            | (go_at_call 36; ((with_reducible refine (HWT.out _ (Ext.refl wr).drew).mono ?_); rintro e wz ⟨rfl, rfl⟩)))
        have HFF := Lib.hid (HB.out.dk.bel.trans (Ext.refl wr).drew)
        clear hs hw3
        go_wp2_with fail
        go_ret
        exact ⟨rfl, HFF.out⟩
section
open Go.ChangeShapes Go.WideShapes Go.Deep
variable {H : Type} {enc : TypeId × Value → H} {P : Program} {w : World} {base : Nat} {spare : Nat → Bool} {held : Bool}
/-- Metadata. -/
structure MetaTy (P : Program) (e tb ti : TypeId) : Prop where
  fs : ∃ f0 f1 : Field, P.underlying e = some (.struct #[f0, f1]) ∧ (f0.type = tb ∧ f0.offset = 0) ∧ (f1.type = ti ∧ f1.offset = 2)
  cells : P.cellsOf e = 3
  bal : BalTy P tb ti
theorem trod_meta {e tb ti : TypeId} (T : MetaTy P e tb ti) {fuel : Nat} {cs : List Value} {x : DataW H × List MemPlace} (h : DataW.trod enc P w base spare held fuel e cs = some x) : ∃ a b c : Int, cs = [.int .i64 a, .int .i64 b, .int .i64 c] := by
  obtain ⟨f0, f1, hs, ⟨y0, o0⟩, y1, o1⟩ := T.fs
  obtain ⟨xs, n, _, _, hcl, hxl, hg⟩ := DataW.trod_struct hs h
  rw [T.cells] at hcl
  match cs, hcl, xs, hxl with
  | [c0, c1, c2], _, [x0, x1], _ =>
    have g0 := hg 0 f0 rfl
    have g1 := hg 1 f1 rfl
    rw [y0, o0, T.bal.cells] at g0
    rw [y1, o1, T.bal.one] at g1
    obtain ⟨a, b, e0, _⟩ := trod_bal T.bal (show DataW.trod enc P w base spare held n tb [c0, c1] = some x0 from g0)
    obtain ⟨c, e1, _, _⟩ := DataW.trod_int T.bal.i64 (show DataW.trod enc P w base spare held n ti [c2] = some x1 from g1)
    injection e0 with e0 e0'
    injection e0' with e0' _
    injection e1 with e1 _
    exact ⟨a, b, c, by rw [e0, e0', e1]⟩
theorem open_meta {e tb ti : TypeId} (T : MetaTy P e tb ti) {r : Reach} {b0 : Nat} {v : Value} {d : DataW H} {p : List MemPlace} (hv : Value.okWide P w r b0 e v) (h : DataW.Trod enc P w base spare held e v d p) : ∃ a b c : Int, v = .agg #[.int .i64 a, .int .i64 b, .int .i64 c] := by
  obtain ⟨f0, f1, hs, _⟩ := T.fs
  obtain ⟨cs, rfl, _⟩ := okWide_struct hs hv
  obtain ⟨fuel, hf⟩ := h
  obtain ⟨a, b, c, hcs⟩ := trod_meta T hf
  refine ⟨a, b, c, ?_⟩
  have e : (Value.cells (.agg cs)).toList = cs.toList := rfl
  rw [e] at hcs
  obtain ⟨cs⟩ := cs
  simp at hcs
  rw [hcs]
end
section
set_option maxRecDepth 100000
open Go.ChangeShapes Go.WideShapes Go.Deep
theorem meta_ty : MetaTy Tryz.prog 76 74 3 := ⟨⟨_, _, Tryz.underlying76, ⟨rfl, rfl⟩, rfl, rfl⟩, by kernel_rfl, bal_ty⟩
/-- Metadata that came in, opened (the name is the frame's: open_t and the type's number). -/
theorem open_t76 {H : Type} {enc : TypeId × Value → H} {w : World} {base : Nat} {sp : Nat → Bool} {held : Bool} {r : Reach} {b0 : Nat} {v : Value} {d : DataW H} {p : List MemPlace}
    (hv : Value.okWide Tryz.prog w r b0 76 v) (h : DataW.Trod enc Tryz.prog w base sp held 76 v d p) : ∃ a b c : Int, v = .agg #[.int .i64 a, .int .i64 b, .int .i64 c] := open_meta meta_ty hv h
end
end Go.Proofs.YtlikhmhomkiadaaGreatDoor
