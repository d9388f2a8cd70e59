/-
  The contract of Seen.
-/
import Derived.Test.YtgcinagkbdcgiaaGreatDoorM00
import Derived.Test.YtgcinagkbdcgiaaGreatDoorM01
import Derived.Test.YtgcinagkbdcgiaaGreatDoorM06
import Derived.Test.YtgcinagkbdcgiaaGreatDoorM07
import Derived.Test.YtgcinagkbdcgiaaGreatDoorM08
import Derived.Test.YtgcinagkbdcgiaaGreatDoorM11
import Derived.Test.YtgcinagkbdcgiaaGreatDoorM12
import Derived.Test.YtgcinagkbdcgiaaGreatDoorM13
namespace Go.Proofs.YtgcinagkbdcgiaaGreatDoor
set_option maxRecDepth 100000
section
open Go Go.RowKit Go.Shelf
attribute [local go_sem] Oper.semAt_some
theorem where_first {s : Int} (h0 : 0 ≤ s) (h1 : s < 156) : 1 ≤ wReg s ∧ wReg s ≤ 5 ∧ 0 ≤ wPlc s ∧ wPlc s < plc (wReg s) ∧ firstS (wReg s) (wPlc s) ≤ s ∧ s < firstS (wReg s) (wPlc s) + wid (wReg s) ∧ 0 ≤ firstS (wReg s) (wPlc s) := by
  have key : ∀ (r : Int), wReg s = r → 0 ≤ wPlc s ∧ wPlc s < plc r → (beg r : Int) + wPlc s * wid r ≤ s ∧ s < (beg r : Int) + wPlc s * wid r + wid r → 1 ≤ r → r ≤ 5 → 1 ≤ wReg s ∧ wReg s ≤ 5 ∧ 0 ≤ wPlc s ∧ wPlc s < plc (wReg s) ∧ firstS (wReg s) (wPlc s) ≤ s ∧ s < firstS (wReg s) (wPlc s) + wid (wReg s) ∧ 0 ≤ firstS (wReg s) (wPlc s) := by
    intro r hr hp hs h1 h5
    rw [hr, firstS_yes hp]
    have : 0 ≤ wPlc s * (wid r : Int) := Int.mul_nonneg hp.1 (by omega)
    exact ⟨h1, h5, hp.1, hp.2, hs.1, hs.2, by omega⟩
  by_cases c1 : s < 2
  · refine key 1 (by unfold wReg; (repeat' split) <;> omega) ?_ ?_ (by omega) (by omega) <;> (simp [plc, beg, wid]; unfold wPlc; (repeat' split) <;> omega)
  by_cases c2 : s < 4
  · refine key 2 (by unfold wReg; (repeat' split) <;> omega) ?_ ?_ (by omega) (by omega) <;> (simp [plc, beg, wid]; unfold wPlc; (repeat' split) <;> omega)
  by_cases c3 : s < 28
  · refine key 3 (by unfold wReg; (repeat' split) <;> omega) ?_ ?_ (by omega) (by omega) <;> (simp [plc, beg, wid]; unfold wPlc; (repeat' split) <;> omega)
  by_cases c4 : s < 124
  · refine key 4 (by unfold wReg; (repeat' split) <;> omega) ?_ ?_ (by omega) (by omega) <;> (simp [plc, beg, wid]; unfold wPlc; (repeat' split) <;> omega)
  · refine key 5 (by unfold wReg; (repeat' split) <;> omega) ?_ ?_ (by omega) (by omega) <;> (simp [plc, beg, wid]; unfold wPlc; (repeat' split) <;> omega)
theorem sectors_156 (p : Option Addr) (w : World) :
    Calls Tryz.prog 118 #[.pointer p, .int .i64 0, .int .i64 156] w fun e w' => e = .returned (.func (.func 199) #[] #[.pointer (some ⟨w.heap.size + 1, 0, none⟩), .pointer (some ⟨w.heap.size + 1 + 1, 0, none⟩), .pointer (some ⟨w.heap.size, 0, none⟩)]) ∧
      Ext w w' ∧ w'.heap.size = w.heap.size + 3 ∧ w'.cell? ⟨w.heap.size + 1, 0, none⟩ = some (.int .i64 0) ∧ w'.cell? ⟨w.heap.size + 1 + 1, 0, none⟩ = some (.int .i64 156) ∧ w'.cell? ⟨w.heap.size, 0, none⟩ = some (.pointer p) :=
  (sectors_in p 0 156 w).mono fun e w' ⟨he, hw⟩ => ⟨he, by rw [hw]; exact (((Ext.refl w).alloc _).alloc _).alloc _, by rw [hw]; simp, by rw [hw]; simp [go_sem], by rw [hw]; simp [go_sem], by rw [hw]; simp [go_sem]⟩
def DM.seenB (m : DM) (r : Int) : Bool := (hurtsIn m.hurt 0 156).all fun s => m.badB r (wReg s) (wPlc s)
theorem sn_ret {b : Nat} {W : World} {a : Act} {D : Nat} {h : Bool} {E : Int} {R : Ending → World → Prop} (h4 : a.tmps.getD 4 undef = .pointer (some ⟨b + 1 + 1, 0, none⟩)) (h5 : a.tmps.getD 5 undef = .pointer (some ⟨b + 1 + 1 + 1, 0, none⟩))
    (hd : a.defers = [{ target := .collected D, args := #[] }]) (hK : W.heap[D]? = some (.deferred (some []))) (c1 : W.cell? ⟨b + 1 + 1, 0, none⟩ = some (.bool h)) (c2 : W.cell? ⟨b + 1 + 1 + 1, 0, none⟩ = some (.int .i64 E))
    (hR : R (.returned (.tuple #[.bool h, .int .i64 E])) (W.putObj D (.deferred none))) : bodyPostM Fence.wide 9 Tryz.prog Tryz.f44 R .ret a W := by
  refine retM1 (v := .tuple #[.bool h, .int .i64 E]) hd hK ?_ hR
  have k1 := cell_kept c1 (grownBy_putObj' _ D (.deferred none)) (fun r e => by cases e; exact ⟨_, hK, rfl⟩)
  have k2 := cell_kept c2 (grownBy_putObj' _ D (.deferred none)) (fun r e => by cases e; exact ⟨_, hK, rfl⟩)
  have h4' : a.tmps[4]?.getD undef = .pointer (some ⟨b + 1 + 1, 0, none⟩) := by simpa using h4
  have h5' : a.tmps[5]?.getD undef = .pointer (some ⟨b + 1 + 1 + 1, 0, none⟩) := by simpa using h5
  simp [results, Tryz.results44, go_sem, h4', h5', k1, k2]
def snW (w : World) (p : Option Addr) (r : Int) : World := (((w.alloc (.cells #[.pointer p] 24)).alloc (.cells #[.int .i64 r] 3)).alloc (.cells #[.bool false] 4)).alloc (.cells #[.int .i64 0] 25)
theorem sn_boxes (w : World) (p : Option Addr) (r : Int) : Ext w (snW w p r) ∧ (snW w p r).heap.size = w.heap.size + 4 ∧ (snW w p r).cell? ⟨w.heap.size, 0, none⟩ = some (.pointer p) ∧ (snW w p r).cell? ⟨w.heap.size + 1, 0, none⟩ = some (.int .i64 r) ∧
    (snW w p r).heap[w.heap.size + 1 + 1]? = some (.cells #[.bool false] 4 (0, 0)) ∧ (snW w p r).heap[w.heap.size + 1 + 1 + 1]? = some (.cells #[.int .i64 0] 25 (0, 0)) := by
  refine ⟨((((Ext.refl w).alloc _).alloc _).alloc _).alloc _, by unfold snW; simp, by unfold snW; simp [go_sem], by unfold snW; simp [go_sem], ?_, ?_⟩
  · have h0 := heap_alloc_last ((w.alloc (.cells #[.pointer p] 24)).alloc (.cells #[.int .i64 r] 3)) (.cells #[.bool false] 4)
    rw [World.size_alloc, World.size_alloc] at h0
    exact (Below.heap_alloc _ _ _ (by simp)).trans h0
  · have h0 := heap_alloc_last (((w.alloc (.cells #[.pointer p] 24)).alloc (.cells #[.int .i64 r] 3)).alloc (.cells #[.bool false] 4)) (.cells #[.int .i64 0] 25)
    rw [World.size_alloc, World.size_alloc, World.size_alloc] at h0
    exact h0
set_option maxHeartbeats 2400000 in
theorem seen_yes {w : World} {d : Nat} {F : Nat → Prop} {m : DM} (h : PDisk w d F m) (hL : LaidF w) (r : Int) (hE : knownG m.size r = 0) :
    Calls Tryz.prog 44 #[.pointer (some ⟨d, 0, none⟩), .int .i64 r] w fun e w' => e = .returned (.tuple #[.bool (m.seenB r), .int .i64 0]) ∧ Ext w w' := by
  obtain ⟨hE0, hsz, b0, b1, b2, b3⟩ := sn_boxes w (some ⟨d, 0, none⟩) r
  have hk := gknown_of (Sized.of (h.ext hE0)) (hL.ext hE0).a.t r
  rw [hE] at hk
  have HK := Lib.hid hk
  have HE0 := Lib.hid hE0
  have HB0 := Lib.hid b0
  have HB1 := Lib.hid b1
  have HB2 := Lib.hid b2
  have HB3 := Lib.hid b3
  have H := Lib.hid h
  have HL := Lib.hid hL
  clear h hL hk hE hE0 b2 b3
  unfold snW at *
  refine calls_marks Tryz.func44 rfl ?_
  simp only [Tryz.ntmps44, List.size_toArray, List.length_cons, List.length_nil, Nat.reduceAdd, Nat.reduceSub, Array.replicate_succ, Array.replicate_zero, List.push_toArray, List.append_toArray, List.nil_append, List.cons_append]
  go_wp2_with fail
  refine HK.out.mono ?_
  rintro e w1 ⟨rfl, hx⟩
  have HB0 := Lib.hid (ext_of_cell hx HB0.out)
  have HB1 := Lib.hid (ext_of_cell hx HB1.out)
  have HB2 := Lib.hid ((hx.block _ (by omega)).trans HB2.out)
  have HB3 := Lib.hid ((hx.block _ (by omega)).trans HB3.out)
  have hsz1 := hx.size
  have HX := Lib.hid (HE0.out.trans hx)
  have hc0 := HB0.out
  have HXd : Hid (Ext w w1.drew) := Lib.hid (Below.drew HX.out)
  clear hx b0 b1 HE0 HK
  go_wp2_with fail
  go_region_held3 (fun w' => w'.cell? ⟨w.heap.size, 0, none⟩ = some (.pointer (some ⟨d, 0, none⟩)))
    (first | with_reducible exact hc0 | exact keepD (by assumption) HB0 | go_keep)
    (first
      | (go_at_call 55; ((with_reducible refine (all_any _ (HL.out.ext HXd.out).a.t).mono ?_); rintro e w2 ⟨rfl, hx⟩; have HXk := Lib.hid hx; clear hx))
      | (go_at_call 118; ((with_reducible refine (sectors_156 _ _).mono ?_); rintro e w3 ⟨rfl, hx3, hs3, hw3⟩; have HXk3 : Hid (Ext w1.drew w3) := Lib.hid (HXk.out.trans hx3); have HW3 := Lib.hid hw3; clear hx3 hw3)))
  have hX3 : Ext w w3 := HXd.out.trans HXk3.out
  have HB0 := Lib.hid (ext_of_cell HXk3.out (show w1.drew.cell? ⟨w.heap.size, 0, none⟩ = _ from HB0.out))
  have HB1 := Lib.hid (ext_of_cell HXk3.out (show w1.drew.cell? ⟨w.heap.size + 1, 0, none⟩ = _ from HB1.out))
  have hl0 : w.heap.size + 4 ≤ w3.heap.size := by
    have := HXk3.out.size
    have h2 : w1.drew.heap.size = w1.heap.size := rfl
    omega
  have HB2 := Lib.hid ((HXk3.out.block _ (show w.heap.size + 1 + 1 < w1.drew.heap.size from (Array.getElem?_eq_some_iff.1 HB2.out).1)).trans (show w1.drew.heap[w.heap.size + 1 + 1]? = _ from HB2.out))
  have HB3 := Lib.hid ((HXk3.out.block _ (show w.heap.size + 1 + 1 + 1 < w1.drew.heap.size from (Array.getElem?_eq_some_iff.1 HB3.out).1)).trans (show w1.drew.heap[w.heap.size + 1 + 1 + 1]? = _ from HB3.out))
  have hst := hurt_stops 8 (by omega) (w2.heap.size + 1) (w2.heap.size + 1 + 1) w2.heap.size (fun i => w3.heap.size ≤ i) (some ⟨d, 0, none⟩) 0 156 ⟨by omega, by omega⟩ (by omega) m.hurt w3
    (HurtsOn.of (H.out.ext hX3) (fun i hi hg => absurd ((H.out.ext hX3).lt i hi) (by omega)) 0 156)
    ⟨by omega, by omega, by omega⟩ HW3.out.1 HW3.out.2.1 HW3.out.2.2
  have HST := Lib.hid hst
  have HX3 := Lib.hid hX3
  clear hst hX3 hc0 HXd HXk HXk3 HW3 HX hs3 hsz1 hsz
  go_wp2_with fail
  refine (wpIn_wide (n := 9)).1 ?_
  refine wpIn_rangeFunc_ownG (F := Fence.wide) (n := 9) rfl (by omega) (gf := 199) (lb := #[.pointer (some ⟨w2.heap.size + 1, 0, none⟩), .pointer (some ⟨w2.heap.size + 1 + 1, 0, none⟩), .pointer (some ⟨w2.heap.size, 0, none⟩)]) rfl trivial (enters_of Tryz.func199 (by kernel_rfl) rfl)
    HST.out (fun h k => h.trans k fun _ hi => .inl hi) (fun W l o o' hl ho _ _ => mod_put (w := w3) l o o' (fun k hk => hk) hl ho) (Below.refl _ _) (fun _ => rfl)
    (fun pre V => (∀ x ∈ pre, m.badB r (wReg x.1) (wPlc x.1) = true) ∧ Below w3.heap.size w3 V)
    (fun c pre V => (c = .ret ∧ (∃ x ∈ pre, m.badB r (wReg x.1) (wPlc x.1) = false) ∧ V.cell? ⟨w.heap.size + 1 + 1, 0, none⟩ = some (.bool false) ∧ V.cell? ⟨w.heap.size + 1 + 1 + 1, 0, none⟩ = some (.int .i64 0)) ∧ Below w.heap.size w V)
    (OwnFrom.and (ownFrom_pure _ _) (ownFrom_below (Nat.le_refl _) (Nat.le_refl _)))
    (fun c => OwnFrom.and (fun s X Y row hs hg hrow => ⟨hs.1, hs.2.1, cell_kept hs.2.2.1 hg (fun r e => (hrow r e).2), cell_kept hs.2.2.2 hg (fun r e => (hrow r e).2)⟩) (ownFrom_below (Nat.le_refl _) (by omega)))
    ⟨by simp, Below.refl _ _⟩
    (fun x => { tmps := #[.pointer (some ⟨d, 0, none⟩), .int .i64 r, .pointer (some ⟨w.heap.size, 0, none⟩), .pointer (some ⟨w.heap.size + 1, 0, none⟩), .pointer (some ⟨w.heap.size + 1 + 1, 0, none⟩), .pointer (some ⟨w.heap.size + 1 + 1 + 1, 0, none⟩), .int .i64 0, .int .i64 x.1, undef, undef, undef, undef, .pointer (some ⟨d, 0, none⟩), .int .i64 r, .int .i64 0, .int .i64 0, .bool false, undef, .pointer (some ⟨d, 0, none⟩), .int .i64 156, .func (.func 199) #[] #[.pointer (some ⟨w2.heap.size + 1, 0, none⟩), .pointer (some ⟨w2.heap.size + 1 + 1, 0, none⟩), .pointer (some ⟨w2.heap.size, 0, none⟩)], .int .i64 x.1, undef, undef, undef, undef, undef, undef, undef, undef, undef, undef, undef, undef, undef], defers := [] }) ?assign ?body ?done ?stop
  case assign =>
    intro l x W K hK
    dsimp only [encS]
    gi_wp2
    exact hK
  case body =>
    rintro l pre x V ⟨hp, hB⟩ hlt
    have hV3 : Ext w3 V := hB
    have hVw : Ext w V := HX3.out.trans hV3
    have hx0 := x.2.1
    have hx1 : x.1 < 156 := by have := x.2.2; omega
    have hwh := owhere_any x.1 V (HL.out.ext hVw).a.t (by omega)
    obtain ⟨_, _, _, _, _, _, hfp⟩ := where_first hx0 hx1
    have hbd : ∀ V', Ext V V' → Calls Tryz.prog 120 #[.pointer (some ⟨d, 0, none⟩), .int .i64 r, .int .i64 (wReg x.1), .int .i64 (wPlc x.1)] V' fun e w' => e = .returned (.bool (m.badB r (wReg x.1) (wPlc x.1))) ∧ Ext V' w' := fun V' hx => isBad_of (H.out.ext (hVw.trans hx)) (HL.out.ext (hVw.trans hx)) r _ _ hfp
    obtain ⟨bb, hbb⟩ : ∃ bb, m.badB r (wReg x.1) (wPlc x.1) = bb := ⟨_, rfl⟩
    rw [hbb] at hbd
    have HBBx : Hid (∀ y, y = x → m.badB r (wReg y.1) (wPlc y.1) = bb) := Lib.hid fun y hy => by rw [hy]; exact hbb
    have HBD := Lib.hid hbd
    have HWH := Lib.hid hwh
    have HP := Lib.hid hp
    have HV3 := Lib.hid hV3
    have HVw := Lib.hid hVw
    have c0 := ext_of_cell hV3 HB0.out
    have c1 := ext_of_cell hV3 HB1.out
    have h7 : 1 ≤ 9 - 1 - 1 := by omega
    clear hbb hbd hwh hp hV3 hVw hfp hB hx0 hx1
    generalize wReg x.1 = rg at *
    generalize wPlc x.1 = pc at *
    generalize wBeh x.1 = bh at *
    generalize wIs x.1 = is at *
    cases bb with
    | true =>
      gi_wp2_with (first
        | (refine ⟨trivial, ?_⟩; gi_at_call 119; refine (CallsIn.inRound l (callsIn_wide.2 HWH.out)).mono ?_; rintro e V1 ⟨rfl, hx1⟩; have HX1 := Lib.hid hx1; have c0 := ext_of_cell hx1 c0; have c1 := ext_of_cell hx1 c1; clear hx1)
        | (refine ⟨trivial, ?_⟩; gi_at_call 120; refine (CallsIn.inRound l (callsIn_wide.2 (HBD.out _ HX1.out))).mono ?_; rintro e V2 ⟨rfl, hx2⟩; have HX2 := Lib.hid (HX1.out.trans hx2); clear hx2))
      exact ⟨KeepsFrom.of_grownBy (grown_of_ext HX2.out) (fun j e => by cases e), Mod.of_ext HX2.out, fun y hy => by
        rcases List.mem_append.1 hy with h | h
        · exact HP.out y h
        · exact HBBx.out y (List.mem_singleton.1 h), HV3.out.trans HX2.out⟩
    | false =>
      have HZ2 : Hid (V.heap[w.heap.size + 1 + 1]? = some (.cells #[.bool false] 4 (0, 0))) := Lib.hid ((HV3.out.block _ (Array.getElem?_eq_some_iff.1 HB2.out).1).trans HB2.out)
      have HZ3 : Hid (V.heap[w.heap.size + 1 + 1 + 1]? = some (.cells #[.int .i64 0] 25 (0, 0))) := Lib.hid ((HV3.out.block _ (Array.getElem?_eq_some_iff.1 HB3.out).1).trans HB3.out)
      gi_wp2_with (first
        | (refine ⟨trivial, ?_⟩; gi_at_call 119; refine (CallsIn.inRound l (callsIn_wide.2 HWH.out)).mono ?_; rintro e V1 ⟨rfl, hx1⟩; have HX1 := Lib.hid hx1; have c0 := ext_of_cell hx1 c0; have c1 := ext_of_cell hx1 c1; clear hx1)
        | (refine ⟨trivial, ?_⟩; gi_at_call 120; refine (CallsIn.inRound l (callsIn_wide.2 (HBD.out _ HX1.out))).mono ?_; rintro e V2 ⟨rfl, hx2⟩; have HX2 := Lib.hid (HX1.out.trans hx2); clear hx2; have HZ2 := Lib.hid ((HX2.out.block _ (Array.getElem?_eq_some_iff.1 HZ2.out).1).trans HZ2.out); have HZ3 := Lib.hid ((HX2.out.block _ (Array.getElem?_eq_some_iff.1 HZ3.out).1).trans HZ3.out); have hc2 := cell_of_row _ _ 0 _ _ _ HZ2.out; have hf2 := frozen_of_row _ _ 0 _ _ HZ2.out; have hl2 := (Array.getElem?_eq_some_iff.1 HZ2.out).1; have hc3 := cell_of_row _ _ 0 _ _ _ HZ3.out; have hf3 := frozen_of_row _ _ 0 _ _ HZ3.out; have hl3 := (Array.getElem?_eq_some_iff.1 HZ3.out).1))
      have k2 := heap_set (g := w.heap.size + 1 + 1 + 1) (k := 0) (x := .int .i64 0) (show w.heap.size + 1 + 1 ≠ w.heap.size + 1 + 1 + 1 by omega) (row_set 0 HZ2.out (.bool false) rfl)
      have k3 := row_set 0 (heap_set (g := w.heap.size + 1 + 1) (k := 0) (x := .bool false) (show w.heap.size + 1 + 1 + 1 ≠ w.heap.size + 1 + 1 by omega) HZ3.out) (.int .i64 0) rfl
      refine ⟨(KeepsFrom.of_grownBy (grown_of_ext HX2.out) (fun j e => by cases e)).trans (((KeepsOthers.setCell _ _ _).trans (KeepsOthers.setCell _ _ _)).from _), ⟨rfl, ⟨x, by simp, HBBx.out x rfl⟩, cell_of_row _ _ 0 _ _ _ k2, cell_of_row _ _ 0 _ _ _ k3⟩, ?_⟩
      have hx2 := HVw.out.trans HX2.out
      exact (hx2.setCell (p := ⟨w.heap.size + 1 + 1, 0, none⟩) (show w.heap.size ≤ w.heap.size + 1 + 1 by omega) _).setCell (p := ⟨w.heap.size + 1 + 1 + 1, 0, none⟩) (show w.heap.size ≤ w.heap.size + 1 + 1 + 1 by omega) _
  case done =>
    rintro D ys V hD hys ⟨hp, hB⟩ hK
    have hV3 : Ext w3 V := hB
    have HVw : Hid (Ext w V) := Lib.hid (HX3.out.trans hV3)
    have HZ2 : Hid (V.heap[w.heap.size + 1 + 1]? = some (.cells #[.bool false] 4 (0, 0))) := Lib.hid ((hV3.block _ (Array.getElem?_eq_some_iff.1 HB2.out).1).trans HB2.out)
    have HZ3 : Hid (V.heap[w.heap.size + 1 + 1 + 1]? = some (.cells #[.int .i64 0] 25 (0, 0))) := Lib.hid ((hV3.block _ (Array.getElem?_eq_some_iff.1 HB3.out).1).trans HB3.out)
    have HSB : Hid (m.seenB r = true) := Lib.hid (by
      unfold DM.seenB
      rw [← hys, List.all_eq_true]
      intro s hs
      obtain ⟨x, hx, rfl⟩ := List.mem_map.1 hs
      exact hp x hx)
    have hc2 := cell_of_row _ _ 0 _ _ _ HZ2.out
    have hf2 := frozen_of_row _ _ 0 _ _ HZ2.out
    have hl2 := (Array.getElem?_eq_some_iff.1 HZ2.out).1
    have hc3 := cell_of_row _ _ 0 _ _ _ HZ3.out
    have hf3 := frozen_of_row _ _ 0 _ _ HZ3.out
    have hl3 := (Array.getElem?_eq_some_iff.1 HZ3.out).1
    have HK := Lib.hid hK
    clear hys hp hB hV3 hK
    go_wp2_with fail
    have k2 := heap_set (g := w.heap.size + 1 + 1 + 1) (k := 0) (x := .int .i64 0) (show w.heap.size + 1 + 1 ≠ w.heap.size + 1 + 1 + 1 by omega) (row_set 0 HZ2.out (.bool true) rfl)
    have k3 := row_set 0 (heap_set (g := w.heap.size + 1 + 1) (k := 0) (x := .bool true) (show w.heap.size + 1 + 1 + 1 ≠ w.heap.size + 1 + 1 by omega) HZ3.out) (.int .i64 0) rfl
    have kK := heap_set (g := w.heap.size + 1 + 1 + 1) (k := 0) (x := .int .i64 0) (show D ≠ w.heap.size + 1 + 1 + 1 by omega) (heap_set (g := w.heap.size + 1 + 1) (k := 0) (x := .bool true) (show D ≠ w.heap.size + 1 + 1 by omega) HK.out)
    have hx2 : Ext w ((V.setCell ⟨w.heap.size + 1 + 1, 0, none⟩ (.bool true)).setCell ⟨w.heap.size + 1 + 1 + 1, 0, none⟩ (.int .i64 0)) := (HVw.out.setCell (p := ⟨w.heap.size + 1 + 1, 0, none⟩) (show w.heap.size ≤ w.heap.size + 1 + 1 by omega) _).setCell (p := ⟨w.heap.size + 1 + 1 + 1, 0, none⟩) (show w.heap.size ≤ w.heap.size + 1 + 1 + 1 by omega) _
    refine sn_ret rfl rfl rfl kK (cell_of_row _ _ 0 _ _ _ k2) (cell_of_row _ _ 0 _ _ _ k3) ?_
    exact ⟨by rw [HSB.out], ext_put hx2 (by omega) kK⟩
  case stop =>
    rintro D cd pre V hD hpre ⟨⟨rfl, ⟨x, hx, hbx⟩, c2, c3⟩, hB⟩ hK
    have HSB : Hid (m.seenB r = false) := Lib.hid (by
      unfold DM.seenB
      rw [List.all_eq_false]
      exact ⟨x.1, hpre.subset (List.mem_map.2 ⟨x, hx, rfl⟩), by rw [hbx]; simp⟩)
    clear hpre hx hbx
    gi_wp2
    refine sn_ret rfl rfl rfl hK c2 c3 ?_
    exact ⟨by rw [HSB.out], ext_put hB (by omega) hK⟩
end
section
structure Flt (m0 m : DM) : Prop where
  cd : CD m (-1)
  meant : m.meant = m0.meant
theorem Flt.flip {m0 m : DM} (h : Flt m0 m) (s b : Int) : Flt m0 (m.flip s b).2 := by
  have hok := DM.flip_ok h.cd.b.ok s b
  unfold DM.flip at hok ⊢
  split
  · exact h
  · rename_i hh
    rw [if_neg hh] at hok
    exact ⟨⟨⟨hok, by show (List.set _ _ _).length = 156; rw [List.length_set]; exact h.cd.b.size, h.cd.b.waits, h.cd.b.down⟩, h.cd.dead, h.cd.power⟩, h.meant⟩
theorem Flt.lose {m0 m : DM} (h : Flt m0 m) (s : Int) : Flt m0 (m.lose s).2 := by
  have hok := DM.lose_ok h.cd.b.ok s
  unfold DM.lose at hok ⊢
  split
  · exact h
  · rename_i hh
    rw [if_neg hh] at hok
    exact ⟨⟨⟨hok, h.cd.b.size, h.cd.b.waits, h.cd.b.down⟩, h.cd.dead, h.cd.power⟩, h.meant⟩
theorem Flt.stray {m0 m : DM} (h : Flt m0 m) (a b : Int) : Flt m0 (m.stray a b).2 := by
  have hok := DM.stray_ok h.cd.b.ok a b
  unfold DM.stray at hok ⊢
  split
  · exact h
  · rename_i hh
    rw [if_neg hh] at hok
    exact ⟨⟨⟨hok, by show (List.set _ _ _).length = 156; rw [List.length_set]; exact h.cd.b.size, h.cd.b.waits, h.cd.b.down⟩, h.cd.dead, h.cd.power⟩, h.meant⟩
theorem at_hold {m : DM} (hs : m.size = 156) {t : Nat} (ht : t < 156) : (m.at_ (t : Int)).1 = m.hold t ∧ (m.at_ (t : Int)).2.1 = m.lost.getD t false := by
  have hh : m.has (t : Int) = true := DM.has_iff.2 ⟨by omega, by rw [hs]; omega⟩
  unfold DM.at_ DM.hold
  rw [if_neg (by rw [hh]; simp), Int.toNat_natCast]
  cases hl : m.lost.getD t false <;> simp
theorem Flt.same {m0 m : DM} (h : Flt m0 m) (h0 : CD m0 (-1)) (hn : NInv m0) {t : Nat} (ht : t < 156) (hu : m.hurt (t : Int) = false) : m.hold t = m0.hold t := by
  obtain ⟨a, b⟩ := unhurt hu
  obtain ⟨c, d⟩ := unhurt (hn.hurt (t : Int))
  rw [← (at_hold h.cd.b.size ht).1, ← (at_hold h0.b.size ht).1, b, d]
  unfold DM.means DM.has
  rw [h.cd.b.size, h0.b.size, h.meant]
theorem seen_bad {m : DM} {r : Int} (h : m.seenB r = true) {t : Nat} (ht : t < 156) (hu : m.hurt (t : Int) = true) : m.badB r (wReg (t : Int)) (wPlc (t : Int)) = true := by
  unfold DM.seenB at h
  rw [List.all_eq_true] at h
  exact h _ (hurtsIn_mem.2 ⟨hu, by omega, by omega⟩)
theorem rest_one (m : DM) (hs : m.size = 156) {t : Nat} (ht : t < 156) : m.restL (t : Int) 1 = m.hold t ∧ m.lostB (t : Int) 1 = m.lost.getD t false := by
  obtain ⟨a, b⟩ := at_hold hs ht
  constructor
  · show [] ++ (m.at_ ((t : Int) + ((0 : Nat) : Int))).1 = _
    rw [show (t : Int) + ((0 : Nat) : Int) = (t : Int) from by omega, a]; rfl
  · unfold DM.lostB
    rw [anyIn_succ, anyIn_zero, show (t : Int) + ((0 : Nat) : Int) = (t : Int) from by omega, b]; rfl
theorem rest_two (m : DM) (hs : m.size = 156) {t : Nat} (ht : t + 1 < 156) : m.restL (t : Int) 2 = m.hold t ++ m.hold (t + 1) ∧ m.lostB (t : Int) 2 = (m.lost.getD t false || m.lost.getD (t + 1) false) := by
  obtain ⟨a, b⟩ := at_hold hs (t := t) (by omega)
  obtain ⟨c, d⟩ := at_hold hs ht
  constructor
  · show ([] ++ (m.at_ ((t : Int) + ((0 : Nat) : Int))).1) ++ (m.at_ ((t : Int) + ((1 : Nat) : Int))).1 = _
    rw [show (t : Int) + ((0 : Nat) : Int) = (t : Int) from by omega, show (t : Int) + ((1 : Nat) : Int) = ((t + 1 : Nat) : Int) from by omega, a, c]; rfl
  · unfold DM.lostB
    rw [anyIn_succ, anyIn_succ, anyIn_zero, show (t : Int) + ((0 : Nat) : Int) = (t : Int) from by omega, show (t : Int) + ((1 : Nat) : Int) = ((t + 1 : Nat) : Int) from by omega, b, d]; rfl
theorem hold_lost {m : DM} {t : Nat} (h : m.lost.getD t false = true) : m.hold t = [] := by unfold DM.hold; rw [if_pos h]
theorem hold_full {m : DM} (hok : m.Ok) (hs : m.size = 156) {t : Nat} (ht : t < 156) (h : m.lost.getD t false = false) : m.hold t ≠ [] := by
  have hl : t < m.rest.length := by have : m.rest.length = 156 := hs; omega
  unfold DM.hold
  rw [if_neg (by rw [h]; simp), List.getD_eq_getElem?_getD, List.getElem?_eq_getElem hl, Option.getD_some]
  intro he
  have := (hok.rests _ (List.getElem_mem hl)).1
  rw [he] at this
  cases this
end
section
def unE (x : Int × DM) (f : DM → Int × DM) : Int × DM := if x.1 = 0 then f x.2 else x
def wrsE (x : Int × DM) (S : Int) (L : List Nat) : Nat → Int × DM
  | 0 => x
  | k + 1 => unE (wrsE x S L k) fun m => m.write (S + (k : Int)) ((L.drop (64 * k)).take 64)
theorem wrs_err {E : Int} {m : DM} (h : E ≠ 0) (S : Int) (L : List Nat) : ∀ W, wrsE (E, m) S L W = (E, m)
  | 0 => rfl
  | k + 1 => by
    show unE (wrsE (E, m) S L k) _ = _
    rw [wrs_err h S L k]
    exact if_neg h
end
section
def fitsC (k count n : Nat) : Bool := decide (1 ≤ count ∧ count ≤ 8 ∧ k < count ∧ n ≤ 80 ∧ (k + 1 < count → n = 80) ∧ (1 ≤ n ∨ count = 1))
theorem fitsC_iff {k count n : Nat} : fitsC k count n = true ↔ 1 ≤ count ∧ count ≤ 8 ∧ k < count ∧ n ≤ 80 ∧ (k + 1 < count → n = 80) ∧ (1 ≤ n ∨ count = 1) := decide_eq_true_iff
def chunkN (n : Nat) : Nat := if n ≤ 80 then 1 else (n + 79) / 80
def chunkL (b : List Nat) (k : Nat) : List Nat := (b.drop (80 * k)).take 80
def splitL (b : List Nat) : List (List Nat) := (List.range (chunkN b.length)).map (chunkL b)
theorem chunkN_in {n : Nat} (h : n ≤ 640) : 1 ≤ chunkN n ∧ chunkN n ≤ 8 ∧ n ≤ 80 * chunkN n ∧ (2 ≤ chunkN n → 80 * (chunkN n - 1) < n) := by unfold chunkN; split <;> omega
theorem splitL_len (b : List Nat) : (splitL b).length = chunkN b.length := by unfold splitL; simp
theorem splitL_get {b : List Nat} {k : Nat} (h : k < chunkN b.length) : (splitL b)[k]? = some (chunkL b k) := by
  unfold splitL
  rw [List.getElem?_map, List.getElem?_range h]; rfl
theorem chunkL_len (b : List Nat) (k : Nat) : (chunkL b k).length = min 80 (b.length - 80 * k) := by unfold chunkL; rw [List.length_take, List.length_drop]
theorem chunks_join (b : List Nat) : ∀ k, ((List.range k).map (chunkL b)).flatten = b.take (80 * k)
  | 0 => by simp
  | k + 1 => by
    rw [List.range_succ, List.map_append, List.flatten_append, chunks_join b k]
    simp only [List.map_cons, List.map_nil, List.flatten_cons, List.flatten_nil, List.append_nil]
    unfold chunkL
    rw [show 80 * (k + 1) = 80 * k + 80 from by omega, List.take_add]
theorem split_flat {b : List Nat} (h : b.length ≤ 640) : (splitL b).flatten = b := by
  unfold splitL
  rw [chunks_join, List.take_of_length_le (chunkN_in h).2.2.1]
theorem split_fits {b : List Nat} (h : b.length ≤ 640) {k : Nat} (hk : k < chunkN b.length) : fitsC k (chunkN b.length) (chunkL b k).length = true := by
  rw [fitsC_iff, chunkL_len]
  obtain ⟨a, b', c, d⟩ := chunkN_in h
  refine ⟨a, b', hk, by omega, fun h2 => ?_, ?_⟩
  · have := d (by omega)
    have : 80 * (k + 1) ≤ 80 * (chunkN b.length - 1) := Nat.mul_le_mul_left _ (by omega)
    omega
  · by_cases h1 : chunkN b.length = 1
    · exact .inr h1
    · left
      have := d (by omega)
      have : 80 * k ≤ 80 * (chunkN b.length - 1) := Nat.mul_le_mul_left _ (by omega)
      omega
end
section
open Go Go.RowKit
theorem u8_sizeZ (w : World) : (sizeOf (Tryz.prog.elem 45)).run Tryz.prog w = .ok 1 w := by
  have ht : Tryz.prog.elem 45 = 5 := by kernel_rfl
  obtain ⟨i0, hi, _, hz1, _⟩ := info_parts byte_info
  rw [ht]
  simp [Go.sizeOf, typeInfo, hi, hz1]
def inZ (a n b : Int) : Bool := decide (a ≤ n ∧ n ≤ b)
theorem inZ_iff {a n b : Int} : inZ a n b = true ↔ a ≤ n ∧ n ≤ b := decide_eq_true_iff
set_option maxHeartbeats 400000 in
theorem zwithin_of (a n b : Int) (w : World) : Calls Tryz.prog 269 #[.int .i64 a, .int .i64 n, .int .i64 b] w fun e w' => e = .returned (.bool (inZ a n b)) ∧ w = w' := by
  by_cases h1 : a ≤ n
  · by_cases h2 : n ≤ b
    · have hd : inZ a n b = true := inZ_iff.2 ⟨h1, h2⟩
      rw [hd]
      clear hd
      go_enter Tryz.func269, Tryz.ntmps269
      go_wp2
      go_ret
      exact ⟨rfl, rfl⟩
    · have hd : inZ a n b = false := by unfold inZ; exact decide_eq_false fun h => h2 h.2
      rw [hd]
      clear hd
      go_enter Tryz.func269, Tryz.ntmps269
      go_wp2
      go_ret
      exact ⟨rfl, rfl⟩
  · have hd : inZ a n b = false := by unfold inZ; exact decide_eq_false fun h => h1 h.1
    rw [hd]
    clear hd
    go_enter Tryz.func269, Tryz.ntmps269
    go_wp2
    go_ret
    exact ⟨rfl, rfl⟩
set_option maxHeartbeats 400000 in
theorem zcount_of (n : Int) (w : World) : Calls Tryz.prog 240 #[.int .i64 n] w fun e w' => e = .returned (.bool (inZ 1 n 8)) ∧ w = w' := by
  go_enter Tryz.func240, Tryz.ntmps240
  go_wp2_with fail
  refine (zwithin_of 1 n 8 _).mono ?_
  rintro e w1 ⟨rfl, rfl⟩
  go_wp2_with fail
  go_ret
  exact ⟨rfl, rfl⟩
def fitsZ (k : Int) (count n : Nat) : Bool := decide (0 ≤ k) && fitsC k.toNat count n
theorem fitsZ_nat {k count n : Nat} : fitsZ (k : Int) count n = fitsC k count n := by unfold fitsZ; simp
theorem fitsZ_eq {k : Int} {count n : Nat} (hc : 1 ≤ count ∧ count ≤ 8) : fitsZ k count n = (inZ 0 k ((count : Int) - 1) && inZ (if count = 1 then 0 else if k < (count : Int) - 1 then 80 else 1) (n : Int) 80) := by
  unfold fitsZ inZ
  rw [Bool.eq_iff_iff, Bool.and_eq_true, Bool.and_eq_true, decide_eq_true_iff, decide_eq_true_iff, decide_eq_true_iff, fitsC_iff]
  by_cases h1 : count = 1
  · rw [if_pos h1]; omega
  · rw [if_neg h1]
    by_cases h2 : k < (count : Int) - 1
    · rw [if_pos h2]; omega
    · rw [if_neg h2]; omega
set_option maxHeartbeats 800000 in
theorem zmay_of (count : Nat) (hc : 1 ≤ count ∧ count ≤ 8) (k : Int) (A : Option Addr) (n c : Nat) (w : World) :
    Calls Tryz.prog 242 #[.int .i64 (count : Int), .int .i64 k, .slice A n c] w fun e w' => e = .returned (.bool (fitsZ k count n)) ∧ w = w' := by
  rw [fitsZ_eq hc]
  have fin : ∀ L : Int, (if count = 1 then (0 : Int) else if k < (count : Int) - 1 then 80 else 1) = L → Hid (Calls Tryz.prog 269 #[.int .i64 L, .int .i64 (n : Int), .int .i64 80] w fun e w' => e = .returned (.bool (inZ L n 80)) ∧ w = w') := fun L _ => Lib.hid (zwithin_of L n 80 w)
  have HI := Lib.hid (zwithin_of 0 k ((count : Int) - 1) w)
  obtain ⟨b0, hb0⟩ : ∃ b0, inZ 0 k ((count : Int) - 1) = b0 := ⟨_, rfl⟩
  rw [hb0] at HI ⊢
  clear hb0
  by_cases h1 : count = 1
  · subst h1
    have H2 := fin 0 rfl
    rw [if_pos rfl]
    clear fin
    cases b0 with
    | false =>
      go_enter Tryz.func242, Tryz.ntmps242
      go_wp2_with fail
      refine HI.out.mono ?_
      rintro e w1 ⟨rfl, rfl⟩
      go_wp2_with fail
      go_ret
      exact ⟨rfl, rfl⟩
    | true =>
      go_enter Tryz.func242, Tryz.ntmps242
      go_wp2_with fail
      refine HI.out.mono ?_
      rintro e w1 ⟨rfl, rfl⟩
      go_wp2_with fail
      refine H2.out.mono ?_
      rintro e w1 ⟨rfl, rfl⟩
      go_wp2_with fail
      go_ret
      exact ⟨rfl, rfl⟩
  · have h1i : ¬ (count : Int) = 1 := by omega
    by_cases h2 : k < (count : Int) - 1
    · have H2 := fin 80 (by rw [if_neg h1, if_pos h2])
      rw [if_neg h1, if_pos h2]
      clear fin
      cases b0 with
      | false =>
        go_enter Tryz.func242, Tryz.ntmps242
        go_wp2_with fail
        refine HI.out.mono ?_
        rintro e w1 ⟨rfl, rfl⟩
        go_wp2_with fail
        go_ret
        exact ⟨rfl, rfl⟩
      | true =>
        go_enter Tryz.func242, Tryz.ntmps242
        go_wp2_with fail
        refine HI.out.mono ?_
        rintro e w1 ⟨rfl, rfl⟩
        go_wp2_with fail
        refine H2.out.mono ?_
        rintro e w1 ⟨rfl, rfl⟩
        go_wp2_with fail
        go_ret
        exact ⟨rfl, rfl⟩
    · have H2 := fin 1 (by rw [if_neg h1, if_neg h2])
      rw [if_neg h1, if_neg h2]
      clear fin
      cases b0 with
      | false =>
        go_enter Tryz.func242, Tryz.ntmps242
        go_wp2_with fail
        refine HI.out.mono ?_
        rintro e w1 ⟨rfl, rfl⟩
        go_wp2_with fail
        go_ret
        exact ⟨rfl, rfl⟩
      | true =>
        go_enter Tryz.func242, Tryz.ntmps242
        go_wp2_with fail
        refine HI.out.mono ?_
        rintro e w1 ⟨rfl, rfl⟩
        go_wp2_with fail
        refine H2.out.mono ?_
        rintro e w1 ⟨rfl, rfl⟩
        go_wp2_with fail
        go_ret
        exact ⟨rfl, rfl⟩
end
section
open Go Go.RowKit Go.Lib
theorem own_madeZ (w : World) : (w.alloc (.cells #[] 5)).ownsRow w.heap.size 5 1 (.slice (some ⟨w.heap.size, 0, none⟩) 0 0) 0 (vb []) := World.ownsRow_made w #[] 0 (Nat.le_refl _) (Nat.zero_le _) rfl
theorem sclone_by (A : Option Addr) (l : List Nat) (n c : Nat) (w : World) (hb : By w A n c l) (hm : n ≤ 140737488355328) :
    Calls Tryz.prog 187 #[.slice A n c] w fun e w' => ∃ A' c', e = .returned (.slice A' n c') ∧ By w' A' n c' l ∧ Ext w w' ∧ w'.ownsRow w.heap.size 5 1 (.slice A' n c') n (vb l) := by
  obtain ⟨i0, hi, hz0, hz1, hz2⟩ := info_parts byte_info
  have q22 : ∀ (w : World) (a : Option Addr) (n c n' c' : Nat), (binOp .eql 45 (.slice a n c) (.slice none n' c')).run Tryz.prog w = .ok (.bool a.isNone) w := fun w a n c n' c' => Lib.run_eql_slice_nil w _ _ a n c n' c' Tryz.underlying45
  have HB := Lib.hid hb
  cases A with
  | none =>
    obtain rfl := Bs.nil_ hb rfl
    have hn : n = 0 := by have := Bs.cap hb; omega
    subst hn
    have hl0 : l = [] := List.eq_nil_of_length_eq_zero (Bs.len hb)
    subst hl0
    clear hb
    go_enter Tryz.func187, Tryz.ntmps187
    go_wp2_with fail
    go_ret
    exact ⟨none, 0, rfl, By.nil_ _, Ext.refl _, World.ownsRow_nil _ _ _ _⟩
  | some ad =>
    have HX := Lib.hid ((Ext.refl w).alloc (.cells #[] 5))
    have HO := Lib.hid (own_madeZ w)
    clear hb
    go_enter Tryz.func187, Tryz.ntmps187
    go_wp2_with (at_builtin; refine wpList_append_by rfl _ _ 45 rfl w.heap.size 5 i0 Tryz.underlying45 hi hz0 hz1 hz2 _ 0 (vb []) rfl HO.out (some ad) n c l rfl (HB.out.ext HX.out) (by omega) (Ext.size HX.out) ?_)
    intro v2 w2 hown hg
    obtain ⟨hx, A2, c2, rfl, hb2, ho2⟩ := app_step (l1 := []) HX.out HO.out hg hown (by simp) HB.out.rd.lt
    have HX2 := Lib.hid hx
    have HB2 := Lib.hid hb2
    have HO2 := Lib.hid ho2
    clear hx hb2 ho2 hown hg
    go_wp2_with fail
    go_ret
    exact ⟨A2, c2, rfl, HB2.out, HX2.out, HO2.out⟩
end
section
open Go Go.RowKit
def bdZ (count : Int) (c : List Nat) : Bool := decide (1 ≤ count ∧ count ≤ 8 ∧ c.length ≤ 80)
theorem bdZ_iff {count : Int} {c : List Nat} : bdZ count c = true ↔ 1 ≤ count ∧ count ≤ 8 ∧ c.length ≤ 80 := decide_eq_true_iff
def prZE (count : Int) (c : List Nat) : Int := if bdZ count c = true then 0 else 2
def prZL (count : Int) (c : List Nat) : List Nat := if bdZ count c = true then count.toNat :: c else []
def paZ : List Nat → Nat × List Nat × Int
  | [] => (0, [], 120)
  | x :: r => if 1 ≤ x ∧ x ≤ 8 ∧ r.length ≤ 80 then (x, r, 0) else (0, [], 120)
theorem paZ_back {count : Int} {c : List Nat} (h : bdZ count c = true) : paZ (prZL count c) = (count.toNat, c, 0) := by
  have := bdZ_iff.1 h
  unfold prZL
  rw [if_pos h]
  show (if _ then _ else _) = _
  rw [if_pos (by omega)]
theorem digs_byteZ {n : Nat} (h : n < 256) : digs 1 n = [n] := by simp [digs]; omega
theorem fits_byteZ {n : Nat} (h : n < 256) : fitsB (1 : Nat) n = true := fits_iff.2 ⟨rfl, by omega, by simpa using h⟩
set_option maxHeartbeats 1000000 in
theorem zprint_any (count : Int) (A : Option Addr) (n c : Nat) (l : List Nat) (w : World) (hL : Laid w) (hb : By w A n c l) (hn : n ≤ 140737488355000) :
    Calls Tryz.prog 239 #[.int .i64 count, .slice A n c] w fun e w' => ∃ A' N' c', e = .returned (.tuple #[.slice A' N' c', .int .i64 (prZE count l)]) ∧ By w' A' N' c' (prZL count l) ∧ Ext w w' := by
  have HL := Lib.hid hL
  have HB := Lib.hid hb
  have hlen := hb.len
  clear hL hb
  cases hz : bdZ count l with
  | true =>
    obtain ⟨h1, h8, h80⟩ := bdZ_iff.1 hz
    obtain ⟨k, rfl⟩ := Int.eq_ofNat_of_zero_le (show 0 ≤ count by omega)
    have hin : inZ 1 (k : Int) 8 = true := inZ_iff.2 ⟨h1, h8⟩
    have HIN := Lib.hid hin
    have HZ := Lib.hid hz
    have hk : k ≤ 8 := by omega
    have hn80 : n ≤ 80 := by omega
    have hp := fun V (hV : Laid V) => put_by 1 k V hV (fits_byteZ (by omega))
    rw [digs_byteZ (show k < 256 by omega)] at hp
    have HP := Lib.hid hp
    clear hin hz h1 h8 h80 hlen hp
    go_enter Tryz.func239, Tryz.ntmps239
    go_wp2_with fail
    refine (zcount_of _ _).mono ?_
    rw [HIN.out]
    rintro e w1 ⟨rfl, rfl⟩
    go_wp2_with fail
    refine (HP.out _ HL.out).mono ?_
    rintro e w1 ⟨A1, c1, rfl, hby, hx⟩
    have HBY := Lib.hid hby
    have HX := Lib.hid hx
    have HB1 := Lib.hid (HB.out.ext hx)
    clear hby hx
    go_wp2_with fail
    have hj := join2_by w1 HBY.out HB1.out (by omega)
    rw [show ([k] : List Nat) ++ l = k :: l from rfl] at hj
    refine hj.mono ?_
    rintro e w2 ⟨A2, c2, rfl, hby, hx⟩
    have HBY2 := Lib.hid hby
    have HX2 := Lib.hid (HX.out.trans hx)
    clear hby hx hj
    go_wp2_with fail
    refine bodyPost_ret (v := .tuple #[.slice A2 (1 + n) c2, .int .i64 0]) (by simp [results, Tryz.results239, go_sem]) rfl ?_
    exact ⟨A2, 1 + n, c2, by unfold prZE; rw [HZ.out]; rfl, by unfold prZL; rw [HZ.out]; simpa using HBY2.out, HX2.out⟩
  | false =>
    have HZ := Lib.hid hz
    cases hin : inZ 1 count 8 with
    | false =>
      have HIN := Lib.hid hin
      clear hz hin
      go_enter Tryz.func239, Tryz.ntmps239
      go_wp2_with fail
      refine (zcount_of _ _).mono ?_
      rw [HIN.out]
      rintro e w1 ⟨rfl, rfl⟩
      go_wp2_with fail
      refine bodyPost_ret (v := .tuple #[.slice none 0 0, .int .i64 2]) (by simp [results, Tryz.results239, go_sem]) rfl ?_
      exact ⟨none, 0, 0, by unfold prZE; rw [HZ.out]; rfl, by unfold prZL; rw [HZ.out]; exact By.nil_ _, Ext.refl _⟩
    | true =>
      have h81 : 80 < n := by
        have h1 := inZ_iff.1 hin
        by_cases h : n ≤ 80
        · have hln := Bs.len HB.out
          have := (bdZ_iff (count := count) (c := l)).2 ⟨h1.1, h1.2, by omega⟩
          rw [hz] at this
          cases this
        · omega
      have HIN := Lib.hid hin
      clear hz hin
      go_enter Tryz.func239, Tryz.ntmps239
      go_wp2_with fail
      refine (zcount_of _ _).mono ?_
      rw [HIN.out]
      rintro e w1 ⟨rfl, rfl⟩
      go_wp2_with fail
      refine bodyPost_ret (v := .tuple #[.slice none 0 0, .int .i64 2]) (by simp [results, Tryz.results239, go_sem]) rfl ?_
      exact ⟨none, 0, 0, by unfold prZE; rw [HZ.out]; rfl, by unfold prZL; rw [HZ.out]; exact By.nil_ _, Ext.refl _⟩
def tlA (A : Option Addr) (c : Nat) : Option Addr := if c = 1 then A else A.map fun a => a.add 1
theorem By.tail1 {w : World} {A : Option Addr} {n c x : Nat} {r : List Nat} (h : By w A n c (x :: r)) : By w (tlA A c) (n - 1) (c - 1) r := by
  have hl := h.len
  have hcp := h.cap
  have hm := h.most
  rw [List.length_cons] at hl
  obtain ⟨g, o, hA, _⟩ := h.rd.2 (by simp)
  cases r with
  | nil =>
    simp at hl
    refine ⟨by simp; omega, by omega, by omega, Rd.nil_, fun e => ?_⟩
    subst hA
    unfold tlA at e
    split at e
    · cases e
    · cases e
  | cons y r =>
    rw [List.length_cons] at hl
    subst hA
    have e : tlA (some ⟨g, o, none⟩) c = some ⟨g, o + 1, none⟩ := by
      unfold tlA
      rw [if_neg (by omega), Option.map_some, Addr.add_lit]
    rw [e]
    refine ⟨by rw [List.length_cons]; omega, by omega, by omega, h.rd.drop rfl 1, fun e => by cases e⟩
theorem zcut_one (A : Option Addr) (n c : Nat) (h : 1 ≤ n) (w : World) : (Instr.slice 45 (.slice A n c) (some (.int .i64 1)) none none).run Tryz.prog w = .ok (.slice (tlA A c) (n - 1) (c - 1)) w := by
  have ht : Tryz.prog.elem 45 = 5 := by kernel_rfl
  rw [run_slice_l w 45 A n c (by rw [ht]; exact Tryz.underlying45) .i64 1 (by omega) (by omega), u8_sizeZ]
  simp only [Result.andThen, sliced]
  rw [show (1 : Int).toNat = 1 from rfl]
  unfold tlA
  simp
theorem getS_cons (x : Nat) (r : List Nat) : getS (x :: r) 0 1 = (x, 1, 0) := by
  unfold getS
  rw [if_neg (by simp [show wOk 1 = true from by decide]; omega), if_neg (by simp; omega)]
  simp [num]
theorem getS_nilZ : getS [] 0 1 = (0, 0, 10) := by decide
end
section
open Go
def mayU (a b c : Int) : Bool := decide (((a = 0 ∧ b = 0) ∨ (1 ≤ a ∧ a ≤ 1099511627776 ∧ 0 ≤ b ∧ b ≤ 6)) ∧ 1 ≤ c ∧ c ≤ 1099511627776)
def uFld (a b c : Nat) : Nat → Nat
  | 0 => a
  | 1 => b
  | _ => c
def uW : Nat → Nat
  | 0 => 6
  | 1 => 1
  | _ => 6
def uPre (f : Nat → Nat) : Nat → List Nat
  | 0 => []
  | k + 1 => uPre f k ++ digs (uW k) (f k)
def uBytes (a b c : Nat) : List Nat := uPre (uFld a b c) 3
def uL (a b c : Int) : List Nat := if mayU a b c = true then uBytes a.toNat b.toNat c.toNat else []
/- There and back. -/
end
section
theorem sealC_sect {r g p : Int} {i c : Nat} {b : List Nat} (h : mayB r g p (i : Int) (c : Int) = true) (hn : b.length ≤ 43) (hb : ∀ x ∈ b, x < 256) : Sect (sealC r g p i c b) := by
  have hE := seal_one (n := b.length) h hn
  refine ⟨?_, sealL_lt hb⟩
  have := (sealL_len hE).1
  unfold sealC
  rw [this]
  rfl
theorem no_copy {x : List Nat} {r g p : Int} (h : stM x r g p ≠ 1) (k : Nat) : mfl x r g p k = 0 := by
  unfold mfl
  split
  · rename_i hm
    exact absurd (by unfold stM; rw [if_pos (by unfold mineB at hm; rw [Bool.and_eq_true] at hm; exact hm.1), if_pos hm]) h
  · rfl
theorem z64_blank (r g p : Int) : stM z64 r g p = 0 := by
  have hz : zeroB z64 = true := by decide
  rw [(mine_bad (zero_bad hz)).1]
  exact stN_blank (by decide) hz
theorem nil_bad (r g p : Int) : stM [] r g p = 2 := by
  have hz : szB [] = false := by decide
  rw [(mine_bad (size_bad hz)).1]
  exact stN_size hz
section
variable {g : Int} {x y : List Nat} {v c u d : Nat} {b e : List Nat}
end
def secV (g : Int) (p : Nat) : Nat := (2 * (g - 1)).toNat + p
theorem secV_first {g : Int} (hg : g = 1 ∨ g = 2) {p : Nat} (hp : p ≤ 1) : firstS g (p : Int) = (secV g p : Nat) := by
  have : p = 0 ∨ p = 1 := by omega
  rcases hg with rfl | rfl <;> rcases this with rfl | rfl <;> decide
theorem secV_lt {g : Int} (hg : g = 1 ∨ g = 2) {p : Nat} (hp : p ≤ 1) : secV g p < 156 := by
  unfold secV
  rcases hg with rfl | rfl <;> omega
theorem secV_ne {g : Int} : secV g 0 ≠ secV g 1 := by unfold secV; omega
section
variable {m : DM} {pw : Int} {g : Int} {v : Nat} {b : List Nat}
theorem CD.cb (h : CD m pw) (hg : g = 1 ∨ g = 2) {p : Nat} (hp : p ≤ 1) : m.cb g (p : Int) = m.hold (secV g p) := by
  unfold DM.cb
  rw [secV_first hg hp]
  exact h.read (secV_lt hg hp)
theorem CD.cb0 (h : CD m pw) (hg : g = 1 ∨ g = 2) : m.cb g 0 = m.hold (secV g 0) := h.cb hg (p := 0) (by omega)
theorem CD.cb1 (h : CD m pw) (hg : g = 1 ∨ g = 2) : m.cb g 1 = m.hold (secV g 1) := h.cb hg (p := 1) (by omega)
end
end
end Go.Proofs.YtgcinagkbdcgiaaGreatDoor
