/-
  The contract of Seen.
-/
import Derived.Test.YtnlappoocffcpaaGreatDoorQ00
import Derived.Test.YtnlappoocffcpaaGreatDoorQ09
import Derived.Test.YtnlappoocffcpaaGreatDoorQ12
import Derived.Test.YtnlappoocffcpaaGreatDoorQ16
namespace Go.Proofs.YtnlappoocffcpaaGreatDoor
set_option maxRecDepth 100000
section
open Go Go.RowKit Go.Shelf
attribute [local go_sem] Oper.semAt_some
theorem where_first {s : Int} (h0 : 0 ≤ s) (h1 : s < 156) : 1 ≤ wReg s ∧ wReg s ≤ 5 ∧ 0 ≤ wPlc s ∧ wPlc s < plc (wReg s) ∧ firstS (wReg s) (wPlc s) ≤ s ∧ s < firstS (wReg s) (wPlc s) + wid (wReg s) ∧ 0 ≤ firstS (wReg s) (wPlc s) := by
  have key : ∀ (r : Int), wReg s = r → 0 ≤ wPlc s ∧ wPlc s < plc r → (beg r : Int) + wPlc s * wid r ≤ s ∧ s < (beg r : Int) + wPlc s * wid r + wid r → 1 ≤ r → r ≤ 5 → 1 ≤ wReg s ∧ wReg s ≤ 5 ∧ 0 ≤ wPlc s ∧ wPlc s < plc (wReg s) ∧ firstS (wReg s) (wPlc s) ≤ s ∧ s < firstS (wReg s) (wPlc s) + wid (wReg s) ∧ 0 ≤ firstS (wReg s) (wPlc s) := by
    intro r hr hp hs h1 h5
    rw [hr, firstS_yes hp]
    have : 0 ≤ wPlc s * (wid r : Int) := Int.mul_nonneg hp.1 (by omega)
    exact ⟨h1, h5, hp.1, hp.2, hs.1, hs.2, by omega⟩
  by_cases c1 : s < 2
  · refine key 1 (by unfold wReg; (repeat' split) <;> omega) ?_ ?_ (by omega) (by omega) <;> (simp [plc, beg, wid]; unfold wPlc; (repeat' split) <;> omega)
  by_cases c2 : s < 4
  · refine key 2 (by unfold wReg; (repeat' split) <;> omega) ?_ ?_ (by omega) (by omega) <;> (simp [plc, beg, wid]; unfold wPlc; (repeat' split) <;> omega)
  by_cases c3 : s < 28
  · refine key 3 (by unfold wReg; (repeat' split) <;> omega) ?_ ?_ (by omega) (by omega) <;> (simp [plc, beg, wid]; unfold wPlc; (repeat' split) <;> omega)
  by_cases c4 : s < 124
  · refine key 4 (by unfold wReg; (repeat' split) <;> omega) ?_ ?_ (by omega) (by omega) <;> (simp [plc, beg, wid]; unfold wPlc; (repeat' split) <;> omega)
  · refine key 5 (by unfold wReg; (repeat' split) <;> omega) ?_ ?_ (by omega) (by omega) <;> (simp [plc, beg, wid]; unfold wPlc; (repeat' split) <;> omega)
theorem sectors_156 (p : Option Addr) (w : World) :
    Calls Tryz.prog 74 #[.pointer p, .int .i64 0, .int .i64 156] w fun e w' => e = .returned (.func (.func 132) #[] #[.pointer (some ⟨w.heap.size + 1, 0, none⟩), .pointer (some ⟨w.heap.size + 1 + 1, 0, none⟩), .pointer (some ⟨w.heap.size, 0, none⟩)]) ∧
      Ext w w' ∧ w'.heap.size = w.heap.size + 3 ∧ w'.cell? ⟨w.heap.size + 1, 0, none⟩ = some (.int .i64 0) ∧ w'.cell? ⟨w.heap.size + 1 + 1, 0, none⟩ = some (.int .i64 156) ∧ w'.cell? ⟨w.heap.size, 0, none⟩ = some (.pointer p) :=
  (sectors_in p 0 156 w).mono fun e w' ⟨he, hw⟩ => ⟨he, by rw [hw]; exact (((Ext.refl w).alloc _).alloc _).alloc _, by rw [hw]; simp, by rw [hw]; simp [go_sem], by rw [hw]; simp [go_sem], by rw [hw]; simp [go_sem]⟩
def DM.seenB (m : DM) (r : Int) : Bool := (hurtsIn m.hurt 0 156).all fun s => m.badB r (wReg s) (wPlc s)
theorem sn_ret {b : Nat} {W : World} {a : Act} {D : Nat} {h : Bool} {E : Int} {R : Ending → World → Prop} (h4 : a.tmps.getD 4 undef = .pointer (some ⟨b + 1 + 1, 0, none⟩)) (h5 : a.tmps.getD 5 undef = .pointer (some ⟨b + 1 + 1 + 1, 0, none⟩))
    (hd : a.defers = [{ target := .collected D, args := #[] }]) (hK : W.heap[D]? = some (.deferred (some []))) (c1 : W.cell? ⟨b + 1 + 1, 0, none⟩ = some (.bool h)) (c2 : W.cell? ⟨b + 1 + 1 + 1, 0, none⟩ = some (.int .i64 E))
    (hR : R (.returned (.tuple #[.bool h, .int .i64 E])) (W.putObj D (.deferred none))) : bodyPostM Fence.wide 9 Tryz.prog Tryz.f28 R .ret a W := by
  refine retM1 (v := .tuple #[.bool h, .int .i64 E]) hd hK ?_ hR
  have k1 := cell_kept c1 (grownBy_putObj' _ D (.deferred none)) (fun r e => by cases e; exact ⟨_, hK, rfl⟩)
  have k2 := cell_kept c2 (grownBy_putObj' _ D (.deferred none)) (fun r e => by cases e; exact ⟨_, hK, rfl⟩)
  have h4' : a.tmps[4]?.getD undef = .pointer (some ⟨b + 1 + 1, 0, none⟩) := by simpa using h4
  have h5' : a.tmps[5]?.getD undef = .pointer (some ⟨b + 1 + 1 + 1, 0, none⟩) := by simpa using h5
  simp [results, Tryz.results28, go_sem, h4', h5', k1, k2]
def snW (w : World) (p : Option Addr) (r : Int) : World := (((w.alloc (.cells #[.pointer p] 24)).alloc (.cells #[.int .i64 r] 3)).alloc (.cells #[.bool false] 4)).alloc (.cells #[.int .i64 0] 25)
theorem sn_boxes (w : World) (p : Option Addr) (r : Int) : Ext w (snW w p r) ∧ (snW w p r).heap.size = w.heap.size + 4 ∧ (snW w p r).cell? ⟨w.heap.size, 0, none⟩ = some (.pointer p) ∧ (snW w p r).cell? ⟨w.heap.size + 1, 0, none⟩ = some (.int .i64 r) ∧
    (snW w p r).heap[w.heap.size + 1 + 1]? = some (.cells #[.bool false] 4 (0, 0)) ∧ (snW w p r).heap[w.heap.size + 1 + 1 + 1]? = some (.cells #[.int .i64 0] 25 (0, 0)) := by
  refine ⟨((((Ext.refl w).alloc _).alloc _).alloc _).alloc _, by unfold snW; simp, by unfold snW; simp [go_sem], by unfold snW; simp [go_sem], ?_, ?_⟩
  · have h0 := heap_alloc_last ((w.alloc (.cells #[.pointer p] 24)).alloc (.cells #[.int .i64 r] 3)) (.cells #[.bool false] 4)
    rw [World.size_alloc, World.size_alloc] at h0
    exact (Below.heap_alloc _ _ _ (by simp)).trans h0
  · have h0 := heap_alloc_last (((w.alloc (.cells #[.pointer p] 24)).alloc (.cells #[.int .i64 r] 3)).alloc (.cells #[.bool false] 4)) (.cells #[.int .i64 0] 25)
    rw [World.size_alloc, World.size_alloc, World.size_alloc] at h0
    exact h0
set_option maxHeartbeats 2400000 in
theorem seen_yes {w : World} {d : Nat} {F : Nat → Prop} {m : DM} (h : PDisk w d F m) (hL : LaidF w) (r : Int) (hE : knownG m.size r = 0) :
    Calls Tryz.prog 28 #[.pointer (some ⟨d, 0, none⟩), .int .i64 r] w fun e w' => e = .returned (.tuple #[.bool (m.seenB r), .int .i64 0]) ∧ Ext w w' := by
  obtain ⟨hE0, hsz, b0, b1, b2, b3⟩ := sn_boxes w (some ⟨d, 0, none⟩) r
  have hk := gknown_of (Sized.of (h.ext hE0)) (hL.ext hE0).a.t r
  rw [hE] at hk
  have HK := Lib.hid hk
  have HE0 := Lib.hid hE0
  have HB0 := Lib.hid b0
  have HB1 := Lib.hid b1
  have HB2 := Lib.hid b2
  have HB3 := Lib.hid b3
  have H := Lib.hid h
  have HL := Lib.hid hL
  clear h hL hk hE hE0 b2 b3
  unfold snW at *
  refine calls_marks Tryz.func28 rfl ?_
  simp only [Tryz.ntmps28, List.size_toArray, List.length_cons, List.length_nil, Nat.reduceAdd, Nat.reduceSub, Array.replicate_succ, Array.replicate_zero, List.push_toArray, List.append_toArray, List.nil_append, List.cons_append]
  go_wp2_with fail
  refine HK.out.mono ?_
  rintro e w1 ⟨rfl, hx⟩
  have HB0 := Lib.hid (ext_of_cell hx HB0.out)
  have HB1 := Lib.hid (ext_of_cell hx HB1.out)
  have HB2 := Lib.hid ((hx.block _ (by omega)).trans HB2.out)
  have HB3 := Lib.hid ((hx.block _ (by omega)).trans HB3.out)
  have hsz1 := hx.size
  have HX := Lib.hid (HE0.out.trans hx)
  have hc0 := HB0.out
  have HXd : Hid (Ext w w1.drew) := Lib.hid (Below.drew HX.out)
  clear hx b0 b1 HE0 HK
  go_wp2_with fail
  go_region_held3 (fun w' => w'.cell? ⟨w.heap.size, 0, none⟩ = some (.pointer (some ⟨d, 0, none⟩)))
    (first | with_reducible exact hc0 | exact keepD (by assumption) HB0 | go_keep)
    (first
      | (go_at_call 39; ((with_reducible refine (all_any _ (HL.out.ext HXd.out).a.t).mono ?_); rintro e w2 ⟨rfl, hx⟩; have HXk := Lib.hid hx; clear hx))
      | (go_at_call 74; ((with_reducible refine (sectors_156 _ _).mono ?_); rintro e w3 ⟨rfl, hx3, hs3, hw3⟩; have HXk3 : Hid (Ext w1.drew w3) := Lib.hid (HXk.out.trans hx3); have HW3 := Lib.hid hw3; clear hx3 hw3)))
  have hX3 : Ext w w3 := HXd.out.trans HXk3.out
  have HB0 := Lib.hid (ext_of_cell HXk3.out (show w1.drew.cell? ⟨w.heap.size, 0, none⟩ = _ from HB0.out))
  have HB1 := Lib.hid (ext_of_cell HXk3.out (show w1.drew.cell? ⟨w.heap.size + 1, 0, none⟩ = _ from HB1.out))
  have hl0 : w.heap.size + 4 ≤ w3.heap.size := by
    have := HXk3.out.size
    have h2 : w1.drew.heap.size = w1.heap.size := rfl
    omega
  have HB2 := Lib.hid ((HXk3.out.block _ (show w.heap.size + 1 + 1 < w1.drew.heap.size from (Array.getElem?_eq_some_iff.1 HB2.out).1)).trans (show w1.drew.heap[w.heap.size + 1 + 1]? = _ from HB2.out))
  have HB3 := Lib.hid ((HXk3.out.block _ (show w.heap.size + 1 + 1 + 1 < w1.drew.heap.size from (Array.getElem?_eq_some_iff.1 HB3.out).1)).trans (show w1.drew.heap[w.heap.size + 1 + 1 + 1]? = _ from HB3.out))
  have hst := hurt_stops 8 (by omega) (w2.heap.size + 1) (w2.heap.size + 1 + 1) w2.heap.size (fun i => w3.heap.size ≤ i) (some ⟨d, 0, none⟩) 0 156 ⟨by omega, by omega⟩ (by omega) m.hurt w3
    (HurtsOn.of (H.out.ext hX3) (fun i hi hg => absurd ((H.out.ext hX3).lt i hi) (by omega)) 0 156)
    ⟨by omega, by omega, by omega⟩ HW3.out.1 HW3.out.2.1 HW3.out.2.2
  have HST := Lib.hid hst
  have HX3 := Lib.hid hX3
  clear hst hX3 hc0 HXd HXk HXk3 HW3 HX hs3 hsz1 hsz
  go_wp2_with fail
  refine (wpIn_wide (n := 9)).1 ?_
  refine wpIn_rangeFunc_ownG (F := Fence.wide) (n := 9) rfl (by omega) (gf := 132) (lb := #[.pointer (some ⟨w2.heap.size + 1, 0, none⟩), .pointer (some ⟨w2.heap.size + 1 + 1, 0, none⟩), .pointer (some ⟨w2.heap.size, 0, none⟩)]) rfl trivial (enters_of Tryz.func132 (by kernel_rfl) rfl)
    HST.out (fun h k => h.trans k fun _ hi => .inl hi) (fun W l o o' hl ho _ _ => mod_put (w := w3) l o o' (fun k hk => hk) hl ho) (Below.refl _ _) (fun _ => rfl)
    (fun pre V => (∀ x ∈ pre, m.badB r (wReg x.1) (wPlc x.1) = true) ∧ Below w3.heap.size w3 V)
    (fun c pre V => (c = .ret ∧ (∃ x ∈ pre, m.badB r (wReg x.1) (wPlc x.1) = false) ∧ V.cell? ⟨w.heap.size + 1 + 1, 0, none⟩ = some (.bool false) ∧ V.cell? ⟨w.heap.size + 1 + 1 + 1, 0, none⟩ = some (.int .i64 0)) ∧ Below w.heap.size w V)
    (OwnFrom.and (ownFrom_pure _ _) (ownFrom_below (Nat.le_refl _) (Nat.le_refl _)))
    (fun c => OwnFrom.and (fun s X Y row hs hg hrow => ⟨hs.1, hs.2.1, cell_kept hs.2.2.1 hg (fun r e => (hrow r e).2), cell_kept hs.2.2.2 hg (fun r e => (hrow r e).2)⟩) (ownFrom_below (Nat.le_refl _) (by omega)))
    ⟨by simp, Below.refl _ _⟩
    (fun x => { tmps := #[.pointer (some ⟨d, 0, none⟩), .int .i64 r, .pointer (some ⟨w.heap.size, 0, none⟩), .pointer (some ⟨w.heap.size + 1, 0, none⟩), .pointer (some ⟨w.heap.size + 1 + 1, 0, none⟩), .pointer (some ⟨w.heap.size + 1 + 1 + 1, 0, none⟩), .int .i64 0, .int .i64 x.1, undef, undef, undef, undef, .pointer (some ⟨d, 0, none⟩), .int .i64 r, .int .i64 0, .int .i64 0, .bool false, undef, .pointer (some ⟨d, 0, none⟩), .int .i64 156, .func (.func 132) #[] #[.pointer (some ⟨w2.heap.size + 1, 0, none⟩), .pointer (some ⟨w2.heap.size + 1 + 1, 0, none⟩), .pointer (some ⟨w2.heap.size, 0, none⟩)], .int .i64 x.1, undef, undef, undef, undef, undef, undef, undef, undef, undef, undef, undef, undef, undef], defers := [] }) ?assign ?body ?done ?stop
  case assign =>
    intro l x W K hK
    dsimp only [encS]
    gi_wp2
    exact hK
  case body =>
    rintro l pre x V ⟨hp, hB⟩ hlt
    have hV3 : Ext w3 V := hB
    have hVw : Ext w V := HX3.out.trans hV3
    have hx0 := x.2.1
    have hx1 : x.1 < 156 := by have := x.2.2; omega
    have hwh := owhere_any x.1 V (HL.out.ext hVw).a.t (by omega)
    obtain ⟨_, _, _, _, _, _, hfp⟩ := where_first hx0 hx1
    have hbd : ∀ V', Ext V V' → Calls Tryz.prog 76 #[.pointer (some ⟨d, 0, none⟩), .int .i64 r, .int .i64 (wReg x.1), .int .i64 (wPlc x.1)] V' fun e w' => e = .returned (.bool (m.badB r (wReg x.1) (wPlc x.1))) ∧ Ext V' w' := fun V' hx => isBad_of (H.out.ext (hVw.trans hx)) (HL.out.ext (hVw.trans hx)) r _ _ hfp
    obtain ⟨bb, hbb⟩ : ∃ bb, m.badB r (wReg x.1) (wPlc x.1) = bb := ⟨_, rfl⟩
    rw [hbb] at hbd
    have HBBx : Hid (∀ y, y = x → m.badB r (wReg y.1) (wPlc y.1) = bb) := Lib.hid fun y hy => by rw [hy]; exact hbb
    have HBD := Lib.hid hbd
    have HWH := Lib.hid hwh
    have HP := Lib.hid hp
    have HV3 := Lib.hid hV3
    have HVw := Lib.hid hVw
    have c0 := ext_of_cell hV3 HB0.out
    have c1 := ext_of_cell hV3 HB1.out
    have h7 : 1 ≤ 9 - 1 - 1 := by omega
    clear hbb hbd hwh hp hV3 hVw hfp hB hx0 hx1
    generalize wReg x.1 = rg at *
    generalize wPlc x.1 = pc at *
    generalize wBeh x.1 = bh at *
    generalize wIs x.1 = is at *
    cases bb with
    | true =>
      gi_wp2_with (first
        | (refine ⟨trivial, ?_⟩; gi_at_call 75; refine (CallsIn.inRound l (callsIn_wide.2 HWH.out)).mono ?_; rintro e V1 ⟨rfl, hx1⟩; have HX1 := Lib.hid hx1; have c0 := ext_of_cell hx1 c0; have c1 := ext_of_cell hx1 c1; clear hx1)
        | (refine ⟨trivial, ?_⟩; gi_at_call 76; refine (CallsIn.inRound l (callsIn_wide.2 (HBD.out _ HX1.out))).mono ?_; rintro e V2 ⟨rfl, hx2⟩; have HX2 := Lib.hid (HX1.out.trans hx2); clear hx2))
      exact ⟨KeepsFrom.of_grownBy (grown_of_ext HX2.out) (fun j e => by cases e), Mod.of_ext HX2.out, fun y hy => by
        rcases List.mem_append.1 hy with h | h
        · exact HP.out y h
        · exact HBBx.out y (List.mem_singleton.1 h), HV3.out.trans HX2.out⟩
    | false =>
      have HZ2 : Hid (V.heap[w.heap.size + 1 + 1]? = some (.cells #[.bool false] 4 (0, 0))) := Lib.hid ((HV3.out.block _ (Array.getElem?_eq_some_iff.1 HB2.out).1).trans HB2.out)
      have HZ3 : Hid (V.heap[w.heap.size + 1 + 1 + 1]? = some (.cells #[.int .i64 0] 25 (0, 0))) := Lib.hid ((HV3.out.block _ (Array.getElem?_eq_some_iff.1 HB3.out).1).trans HB3.out)
      gi_wp2_with (first
        | (refine ⟨trivial, ?_⟩; gi_at_call 75; refine (CallsIn.inRound l (callsIn_wide.2 HWH.out)).mono ?_; rintro e V1 ⟨rfl, hx1⟩; have HX1 := Lib.hid hx1; have c0 := ext_of_cell hx1 c0; have c1 := ext_of_cell hx1 c1; clear hx1)
        | (refine ⟨trivial, ?_⟩; gi_at_call 76; refine (CallsIn.inRound l (callsIn_wide.2 (HBD.out _ HX1.out))).mono ?_; rintro e V2 ⟨rfl, hx2⟩; have HX2 := Lib.hid (HX1.out.trans hx2); clear hx2; have HZ2 := Lib.hid ((HX2.out.block _ (Array.getElem?_eq_some_iff.1 HZ2.out).1).trans HZ2.out); have HZ3 := Lib.hid ((HX2.out.block _ (Array.getElem?_eq_some_iff.1 HZ3.out).1).trans HZ3.out); have hc2 := cell_of_row _ _ 0 _ _ _ HZ2.out; have hf2 := frozen_of_row _ _ 0 _ _ HZ2.out; have hl2 := (Array.getElem?_eq_some_iff.1 HZ2.out).1; have hc3 := cell_of_row _ _ 0 _ _ _ HZ3.out; have hf3 := frozen_of_row _ _ 0 _ _ HZ3.out; have hl3 := (Array.getElem?_eq_some_iff.1 HZ3.out).1))
      have k2 := heap_set (g := w.heap.size + 1 + 1 + 1) (k := 0) (x := .int .i64 0) (show w.heap.size + 1 + 1 ≠ w.heap.size + 1 + 1 + 1 by omega) (row_set 0 HZ2.out (.bool false) rfl)
      have k3 := row_set 0 (heap_set (g := w.heap.size + 1 + 1) (k := 0) (x := .bool false) (show w.heap.size + 1 + 1 + 1 ≠ w.heap.size + 1 + 1 by omega) HZ3.out) (.int .i64 0) rfl
      refine ⟨(KeepsFrom.of_grownBy (grown_of_ext HX2.out) (fun j e => by cases e)).trans (((KeepsOthers.setCell _ _ _).trans (KeepsOthers.setCell _ _ _)).from _), ⟨rfl, ⟨x, by simp, HBBx.out x rfl⟩, cell_of_row _ _ 0 _ _ _ k2, cell_of_row _ _ 0 _ _ _ k3⟩, ?_⟩
      have hx2 := HVw.out.trans HX2.out
      exact (hx2.setCell (p := ⟨w.heap.size + 1 + 1, 0, none⟩) (show w.heap.size ≤ w.heap.size + 1 + 1 by omega) _).setCell (p := ⟨w.heap.size + 1 + 1 + 1, 0, none⟩) (show w.heap.size ≤ w.heap.size + 1 + 1 + 1 by omega) _
  case done =>
    rintro D ys V hD hys ⟨hp, hB⟩ hK
    have hV3 : Ext w3 V := hB
    have HVw : Hid (Ext w V) := Lib.hid (HX3.out.trans hV3)
    have HZ2 : Hid (V.heap[w.heap.size + 1 + 1]? = some (.cells #[.bool false] 4 (0, 0))) := Lib.hid ((hV3.block _ (Array.getElem?_eq_some_iff.1 HB2.out).1).trans HB2.out)
    have HZ3 : Hid (V.heap[w.heap.size + 1 + 1 + 1]? = some (.cells #[.int .i64 0] 25 (0, 0))) := Lib.hid ((hV3.block _ (Array.getElem?_eq_some_iff.1 HB3.out).1).trans HB3.out)
    have HSB : Hid (m.seenB r = true) := Lib.hid (by
      unfold DM.seenB
      rw [← hys, List.all_eq_true]
      intro s hs
      obtain ⟨x, hx, rfl⟩ := List.mem_map.1 hs
      exact hp x hx)
    have hc2 := cell_of_row _ _ 0 _ _ _ HZ2.out
    have hf2 := frozen_of_row _ _ 0 _ _ HZ2.out
    have hl2 := (Array.getElem?_eq_some_iff.1 HZ2.out).1
    have hc3 := cell_of_row _ _ 0 _ _ _ HZ3.out
    have hf3 := frozen_of_row _ _ 0 _ _ HZ3.out
    have hl3 := (Array.getElem?_eq_some_iff.1 HZ3.out).1
    have HK := Lib.hid hK
    clear hys hp hB hV3 hK
    go_wp2_with fail
    have k2 := heap_set (g := w.heap.size + 1 + 1 + 1) (k := 0) (x := .int .i64 0) (show w.heap.size + 1 + 1 ≠ w.heap.size + 1 + 1 + 1 by omega) (row_set 0 HZ2.out (.bool true) rfl)
    have k3 := row_set 0 (heap_set (g := w.heap.size + 1 + 1) (k := 0) (x := .bool true) (show w.heap.size + 1 + 1 + 1 ≠ w.heap.size + 1 + 1 by omega) HZ3.out) (.int .i64 0) rfl
    have kK := heap_set (g := w.heap.size + 1 + 1 + 1) (k := 0) (x := .int .i64 0) (show D ≠ w.heap.size + 1 + 1 + 1 by omega) (heap_set (g := w.heap.size + 1 + 1) (k := 0) (x := .bool true) (show D ≠ w.heap.size + 1 + 1 by omega) HK.out)
    have hx2 : Ext w ((V.setCell ⟨w.heap.size + 1 + 1, 0, none⟩ (.bool true)).setCell ⟨w.heap.size + 1 + 1 + 1, 0, none⟩ (.int .i64 0)) := (HVw.out.setCell (p := ⟨w.heap.size + 1 + 1, 0, none⟩) (show w.heap.size ≤ w.heap.size + 1 + 1 by omega) _).setCell (p := ⟨w.heap.size + 1 + 1 + 1, 0, none⟩) (show w.heap.size ≤ w.heap.size + 1 + 1 + 1 by omega) _
    refine sn_ret rfl rfl rfl kK (cell_of_row _ _ 0 _ _ _ k2) (cell_of_row _ _ 0 _ _ _ k3) ?_
    exact ⟨by rw [HSB.out], ext_put hx2 (by omega) kK⟩
  case stop =>
    rintro D cd pre V hD hpre ⟨⟨rfl, ⟨x, hx, hbx⟩, c2, c3⟩, hB⟩ hK
    have HSB : Hid (m.seenB r = false) := Lib.hid (by
      unfold DM.seenB
      rw [List.all_eq_false]
      exact ⟨x.1, hpre.subset (List.mem_map.2 ⟨x, hx, rfl⟩), by rw [hbx]; simp⟩)
    clear hpre hx hbx
    gi_wp2
    refine sn_ret rfl rfl rfl hK c2 c3 ?_
    exact ⟨by rw [HSB.out], ext_put hB (by omega) hK⟩
end
section
def SlD (m : DM) (r : Int) (q : Nat) (j : Int) (o : Option (Int × Int × Ent)) : Prop := SlH j o (m.recM r (q : Int)) (m.copM r ((2 * q : Nat) : Int)) (m.copM r ((2 * q + 1 : Nat) : Int))
def slT (q t : Nat) : Prop := t = sR q ∨ t = sF (2 * q) ∨ t = sF (2 * q) + 1 ∨ t = sF (2 * q + 1) ∨ t = sF (2 * q + 1) + 1
theorem SlD.new {q : Nat} (hq : q < 24) (r j : Int) : SlD (DM.new 156) r q j none := ⟨new_recM hq r, new_copM (by omega) r, new_copM (by omega) r⟩
theorem SlD.of_same {m m' : DM} {pw pw' : Int} (h : CD m pw) (h' : CD m' pw') {q : Nat} (hq : q < 24) {r j : Int} {o : Option (Int × Int × Ent)} (ht : ∀ t, slT q t → m'.hold t = m.hold t) (hs : SlD m r q j o) : SlD m' r q j o := by
  obtain ⟨a, b, c⟩ := slot_same h h' hq r ht
  unfold SlD
  rw [a, b, c]
  exact hs
theorem mayW3 {r inc i : Int} {q : Nat} (hr : 0 ≤ r ∧ r ≤ 6) (hi : 0 ≤ i ∧ i ≤ 1099511627776) (hc : 1 ≤ inc ∧ inc ≤ 1099511627776) (hq : q < 24) : mayB r 3 (q : Int) i inc = true := by
  unfold mayB
  rw [decide_eq_true_iff]
  simp [plc]
  omega
theorem mayW4 {r inc i : Int} {p : Nat} (hr : 0 ≤ r ∧ r ≤ 6) (hi : 0 ≤ i ∧ i ≤ 1099511627776) (hc : 1 ≤ inc ∧ inc ≤ 1099511627776) (hp : p < 48) : mayB r 4 (p : Int) i inc = true := by
  unfold mayB
  rw [decide_eq_true_iff]
  simp [plc]
  omega
theorem nextW_two (m : DM) (r i : Int) : m.nextW r i = 0 ∨ m.nextW r i = 1 := (nextL_two _ _ _ _).1
theorem nextW_of {m : DM} {r i : Int} {q : Nat} (hq : placeW i = (q : Int)) : m.nextW r i = nextL (m.recM r (q : Int)) (m.copM r ((2 * q : Nat) : Int)) (m.copM r ((2 * q + 1 : Nat) : Int)) i := by
  unfold DM.nextW
  rw [hq, show 2 * (q : Int) = ((2 * q : Nat) : Int) from by omega, show ((2 * q : Nat) : Int) + 1 = ((2 * q + 1 : Nat) : Int) from by omega]
theorem SlD.put {m : DM} (h : CD m (-1)) {r inc i x y : Int} {e : Ent} {q : Nat} (hq : placeW i = (q : Int)) (hq24 : q < 24) {j : Int} {o : Option (Int × Int × Ent)} (hs : SlD m r q j o) (hr : 0 ≤ r ∧ r ≤ 6) (hi : 0 ≤ i ∧ i ≤ 1099511627776) (hc : 1 ≤ inc ∧ inc ≤ 1099511627776) (hb : balE x y = true) (he : enOk e = true)
    (hcon : o = none ∨ j < i ∨ (j = i ∧ ∀ a b c, o = some (a, b, c) → gtL x y a b)) :
    ∃ m', m.putW r inc i x y e = (0, m') ∧ CD m' (-1) ∧ (NInv m → NInv m') ∧ SlD m' r q i (some (x, y, e)) ∧ ∀ q', q' < 24 → q' ≠ q → ∀ t, slT q' t → m'.hold t = m.hold t := by
  have hk := nextW_two m r i
  have hkn := nextW_of (m := m) (r := r) hq
  obtain ⟨p, hp, hp48, hpc⟩ : ∃ p : Nat, 2 * (q : Int) + m.nextW r i = (p : Int) ∧ p < 48 ∧ ((p = 2 * q ∧ m.nextW r i = 0) ∨ (p = 2 * q + 1 ∧ m.nextW r i = 1)) := by
    rcases hk with hk | hk
    · exact ⟨2 * q, by omega, by omega, .inl ⟨rfl, hk⟩⟩
    · exact ⟨2 * q + 1, by omega, by omega, .inr ⟨rfl, hk⟩⟩
  have m3 := mayW3 (q := q) hr hi hc hq24
  have m4 := mayW4 (p := p) hr hi hc hp48
  have hrb : recB x y (m.nextW r i) = true := recB_iff.2 ⟨balE_iff.1 hb, hk⟩
  obtain ⟨s1, s2, sp⟩ := frmW_sects (x := x) (y := y) (e := e) m4 hb he
  have s3 := recW_sect (x := x) (y := y) m3 hrb
  obtain ⟨m', e1, c1, n1, g1⟩ := h.putK hq24 hp48 (k := m.nextW r i) (x := x) (y := y) (e := e) hp s1 s2 s3
  have hput : m.putW r inc i x y e = (0, m') := by unfold DM.putW; rw [hq]; exact e1
  refine ⟨m', hput, c1, n1, ?_, fun q' hq' hne t ht => ?_⟩
  · -- what is read then
    have hrec : m'.recM r (q : Int) = { st := 1, ix := i, bx := x, yb := y, wh := m.nextW r i } := by
      rw [c1.recM hq24, g1, if_pos rfl]
      exact recW_back m3 hb hk
    have hnew : m'.copM r (p : Int) = { st := 1, ix := i, bx := x, yb := y, e := e } := by
      rw [c1.copM hp48, g1, g1, if_neg (by unfold sF sR; omega), if_neg (by omega), if_pos rfl, if_neg (by unfold sF sR; omega), if_pos rfl, sp]
      exact frmW_back m4 hb he
    have hold : ∀ p', p' < 48 → p' ≠ p → m'.copM r (p' : Int) = m.copM r (p' : Int) := fun p' hp' hne => by
      rw [c1.copM hp', h.copM hp', g1, g1]
      rw [if_neg (by unfold sF sR; omega), if_neg (by unfold sF; omega), if_neg (by unfold sF; omega), if_neg (by unfold sF sR; omega), if_neg (by unfold sF; omega), if_neg (by unfold sF; omega)]
    have := SlH.put (i := i) (x := x) (y := y) (e := e) hs hcon
    rw [← hkn] at this
    unfold SlD
    rw [hrec]
    rcases hpc with ⟨rfl, hz⟩ | ⟨rfl, hz⟩
    · rw [hnew, hold (2 * q + 1) (by omega) (by omega)]
      rw [hz] at this ⊢
      simpa using this
    · rw [hnew, hold (2 * q) (by omega) (by omega)]
      rw [hz] at this ⊢
      simpa using this
  · have hf := putT_far (p := p) hq24 hq' hne (by omega) ht
    unfold putT at hf
    rw [g1 t, if_neg (fun e => hf (.inl e)), if_neg (fun e => hf (.inr (.inr e))), if_neg (fun e => hf (.inr (.inl e)))]
structure Flt (m0 m : DM) : Prop where
  cd : CD m (-1)
  meant : m.meant = m0.meant
theorem Flt.flip {m0 m : DM} (h : Flt m0 m) (s b : Int) : Flt m0 (m.flip s b).2 := by
  have hok := DM.flip_ok h.cd.b.ok s b
  unfold DM.flip at hok ⊢
  split
  · exact h
  · rename_i hh
    rw [if_neg hh] at hok
    exact ⟨⟨⟨hok, by show (List.set _ _ _).length = 156; rw [List.length_set]; exact h.cd.b.size, h.cd.b.waits, h.cd.b.down⟩, h.cd.dead, h.cd.power⟩, h.meant⟩
theorem Flt.lose {m0 m : DM} (h : Flt m0 m) (s : Int) : Flt m0 (m.lose s).2 := by
  have hok := DM.lose_ok h.cd.b.ok s
  unfold DM.lose at hok ⊢
  split
  · exact h
  · rename_i hh
    rw [if_neg hh] at hok
    exact ⟨⟨⟨hok, h.cd.b.size, h.cd.b.waits, h.cd.b.down⟩, h.cd.dead, h.cd.power⟩, h.meant⟩
theorem Flt.stray {m0 m : DM} (h : Flt m0 m) (a b : Int) : Flt m0 (m.stray a b).2 := by
  have hok := DM.stray_ok h.cd.b.ok a b
  unfold DM.stray at hok ⊢
  split
  · exact h
  · rename_i hh
    rw [if_neg hh] at hok
    exact ⟨⟨⟨hok, by show (List.set _ _ _).length = 156; rw [List.length_set]; exact h.cd.b.size, h.cd.b.waits, h.cd.b.down⟩, h.cd.dead, h.cd.power⟩, h.meant⟩
theorem at_hold {m : DM} (hs : m.size = 156) {t : Nat} (ht : t < 156) : (m.at_ (t : Int)).1 = m.hold t ∧ (m.at_ (t : Int)).2.1 = m.lost.getD t false := by
  have hh : m.has (t : Int) = true := DM.has_iff.2 ⟨by omega, by rw [hs]; omega⟩
  unfold DM.at_ DM.hold
  rw [if_neg (by rw [hh]; simp), Int.toNat_natCast]
  cases hl : m.lost.getD t false <;> simp
theorem Flt.same {m0 m : DM} (h : Flt m0 m) (h0 : CD m0 (-1)) (hn : NInv m0) {t : Nat} (ht : t < 156) (hu : m.hurt (t : Int) = false) : m.hold t = m0.hold t := by
  obtain ⟨a, b⟩ := unhurt hu
  obtain ⟨c, d⟩ := unhurt (hn.hurt (t : Int))
  rw [← (at_hold h.cd.b.size ht).1, ← (at_hold h0.b.size ht).1, b, d]
  unfold DM.means DM.has
  rw [h.cd.b.size, h0.b.size, h.meant]
theorem wh3 {q : Nat} (h : q < 24) : wReg (sR q : Int) = 3 ∧ wPlc (sR q : Int) = (q : Int) := by
  unfold wReg wPlc sR
  rw [if_neg (by omega), if_neg (by omega), if_neg (by omega), if_pos (by omega), if_neg (by omega), if_neg (by omega), if_neg (by omega), if_pos (by omega)]
  exact ⟨rfl, by omega⟩
theorem wh4 {p j : Nat} (h : p < 48) (hj : j ≤ 1) : wReg ((sF p + j : Nat) : Int) = 4 ∧ wPlc ((sF p + j : Nat) : Int) = (p : Int) := by
  unfold wReg wPlc sF
  rw [if_neg (by omega), if_neg (by omega), if_neg (by omega), if_neg (by omega), if_pos (by omega), if_neg (by omega), if_neg (by omega), if_neg (by omega), if_neg (by omega), if_pos (by omega)]
  exact ⟨rfl, by omega⟩
theorem seen_bad {m : DM} {r : Int} (h : m.seenB r = true) {t : Nat} (ht : t < 156) (hu : m.hurt (t : Int) = true) : m.badB r (wReg (t : Int)) (wPlc (t : Int)) = true := by
  unfold DM.seenB at h
  rw [List.all_eq_true] at h
  exact h _ (hurtsIn_mem.2 ⟨hu, by omega, by omega⟩)
theorem rest_one (m : DM) (hs : m.size = 156) {t : Nat} (ht : t < 156) : m.restL (t : Int) 1 = m.hold t ∧ m.lostB (t : Int) 1 = m.lost.getD t false := by
  obtain ⟨a, b⟩ := at_hold hs ht
  constructor
  · show [] ++ (m.at_ ((t : Int) + ((0 : Nat) : Int))).1 = _
    rw [show (t : Int) + ((0 : Nat) : Int) = (t : Int) from by omega, a]; rfl
  · unfold DM.lostB
    rw [anyIn_succ, anyIn_zero, show (t : Int) + ((0 : Nat) : Int) = (t : Int) from by omega, b]; rfl
theorem rest_two (m : DM) (hs : m.size = 156) {t : Nat} (ht : t + 1 < 156) : m.restL (t : Int) 2 = m.hold t ++ m.hold (t + 1) ∧ m.lostB (t : Int) 2 = (m.lost.getD t false || m.lost.getD (t + 1) false) := by
  obtain ⟨a, b⟩ := at_hold hs (t := t) (by omega)
  obtain ⟨c, d⟩ := at_hold hs ht
  constructor
  · show ([] ++ (m.at_ ((t : Int) + ((0 : Nat) : Int))).1) ++ (m.at_ ((t : Int) + ((1 : Nat) : Int))).1 = _
    rw [show (t : Int) + ((0 : Nat) : Int) = (t : Int) from by omega, show (t : Int) + ((1 : Nat) : Int) = ((t + 1 : Nat) : Int) from by omega, a, c]; rfl
  · unfold DM.lostB
    rw [anyIn_succ, anyIn_succ, anyIn_zero, show (t : Int) + ((0 : Nat) : Int) = (t : Int) from by omega, show (t : Int) + ((1 : Nat) : Int) = ((t + 1 : Nat) : Int) from by omega, b, d]; rfl
theorem hold_lost {m : DM} {t : Nat} (h : m.lost.getD t false = true) : m.hold t = [] := by unfold DM.hold; rw [if_pos h]
theorem hold_full {m : DM} (hok : m.Ok) (hs : m.size = 156) {t : Nat} (ht : t < 156) (h : m.lost.getD t false = false) : m.hold t ≠ [] := by
  have hl : t < m.rest.length := by have : m.rest.length = 156 := hs; omega
  unfold DM.hold
  rw [if_neg (by rw [h]; simp), List.getD_eq_getElem?_getD, List.getElem?_eq_getElem hl, Option.getD_some]
  intro he
  have := (hok.rests _ (List.getElem_mem hl)).1
  rw [he] at this
  cases this
theorem Flt.rec_ {m0 m : DM} (h : Flt m0 m) (h0 : CD m0 (-1)) (hn : NInv m0) {r : Int} (hs : m.seenB r = true) {q : Nat} (hq : q < 24) : HrtR (m0.recM r (q : Int)) (m.recM r (q : Int)) ∧ (anyIn m.hurt (firstS 3 (q : Int)) (wid 3) = false → m.recM r (q : Int) = m0.recM r (q : Int)) := by
  rw [h0.recM hq, h.cd.recM hq, first3 hq]
  have hy : ∀ {hu : m.hurt (sR q : Int) = false}, m.hold (sR q) = m0.hold (sR q) := fun {hu} => h.same h0 hn (sR_lt hq) hu
  constructor
  · by_cases hu : m.hurt (sR q : Int) = true
    · have hb := seen_bad hs (sR_lt hq) hu
      rw [(wh3 hq).1, (wh3 hq).2] at hb
      unfold DM.badB at hb
      rw [first3 hq, show wid 3 = 1 from rfl, (rest_one m h.cd.b.size (sR_lt hq)).1, (rest_one m h.cd.b.size (sR_lt hq)).2, Bool.or_eq_true, decide_eq_true_iff] at hb
      right
      rcases hb with hb | hb
      · rw [hold_lost hb, recQ_nil]
      · unfold recQ; rw [hb]; rfl
    · exact .inl (by rw [hy (hu := by simpa using hu)])
  · intro ha
    have : m.hurt (sR q : Int) = false := by
      rw [show wid 3 = 1 from rfl, anyIn_succ, anyIn_zero, show ((sR q : Nat) : Int) + ((0 : Nat) : Int) = (sR q : Int) from by omega] at ha
      simpa using ha
    rw [hy (hu := this)]
theorem Flt.cop_ {m0 m : DM} (h : Flt m0 m) (h0 : CD m0 (-1)) (hn : NInv m0) {r : Int} (hs : m.seenB r = true) {p : Nat} (hp : p < 48) : HrtC (m0.copM r (p : Int)) (m.copM r (p : Int)) ∧ (anyIn m.hurt (firstS 4 (p : Int)) (wid 4) = false → m.copM r (p : Int) = m0.copM r (p : Int)) := by
  have hlt := sF_lt hp
  rw [h0.copM hp, h.cd.copM hp, first4 hp]
  have two : anyIn m.hurt (sF p : Int) 2 = (m.hurt (sF p : Int) || m.hurt ((sF p + 1 : Nat) : Int)) := by
    rw [anyIn_succ, anyIn_succ, anyIn_zero, show ((sF p : Nat) : Int) + ((0 : Nat) : Int) = (sF p : Int) from by omega, show ((sF p : Nat) : Int) + ((1 : Nat) : Int) = ((sF p + 1 : Nat) : Int) from by omega]; rfl
  have same : m.hurt (sF p : Int) = false → m.hurt ((sF p + 1 : Nat) : Int) = false → pair2 (m.hold (sF p)) (m.hold (sF p + 1)) = pair2 (m0.hold (sF p)) (m0.hold (sF p + 1)) := fun a b => by rw [h.same h0 hn (by omega) a, h.same h0 hn hlt b]
  have bad : m.badB r 4 (p : Int) = true → (copQ r (p : Int) (pair2 (m.hold (sF p)) (m.hold (sF p + 1)))).st = 2 := fun hb => by
    unfold DM.badB at hb
    rw [first4 hp, show wid 4 = 2 from rfl, (rest_two m h.cd.b.size hlt).1, (rest_two m h.cd.b.size hlt).2, Bool.or_eq_true, Bool.or_eq_true, decide_eq_true_iff] at hb
    by_cases hl : m.lost.getD (sF p) false = true ∨ m.lost.getD (sF p + 1) false = true
    · have : pair2 (m.hold (sF p)) (m.hold (sF p + 1)) = [] := by
        unfold pair2
        rcases hl with hl | hl
        · rw [if_pos (.inl (hold_lost hl))]
        · rw [if_pos (.inr (hold_lost hl))]
      rw [this, copQ_nil]
    · have hb2 := hb.resolve_left hl
      have : pair2 (m.hold (sF p)) (m.hold (sF p + 1)) = m.hold (sF p) ++ m.hold (sF p + 1) := by
        unfold pair2
        rw [if_neg]
        rintro (e | e)
        · exact hold_full h.cd.b.ok h.cd.b.size (by omega) (by simpa using fun x => hl (.inl x)) e
        · exact hold_full h.cd.b.ok h.cd.b.size hlt (by simpa using fun x => hl (.inr x)) e
      rw [this]
      unfold copQ
      rw [hb2]
      rfl
  constructor
  · by_cases hu : m.hurt (sF p : Int) = true
    · have hb := seen_bad hs (by omega) hu
      have h4 := wh4 hp (j := 0) (by omega)
      rw [Nat.add_zero] at h4
      rw [h4.1, h4.2] at hb
      exact .inr (bad hb)
    · by_cases hu2 : m.hurt ((sF p + 1 : Nat) : Int) = true
      · have hb := seen_bad hs hlt hu2
        rw [(wh4 hp (j := 1) (by omega)).1, (wh4 hp (j := 1) (by omega)).2] at hb
        exact .inr (bad hb)
      · exact .inl (by rw [same (by simpa using hu) (by simpa using hu2)])
  · intro ha
    rw [show wid 4 = 2 from rfl, two, Bool.or_eq_false_iff] at ha
    rw [same ha.1 ha.2]
end
section
structure Rpt where
  ix : Int := 0
  st : Nat := 0
  x : Int := 0
  y : Int := 0
  e : Ent := {}
def DM.clsW (m : DM) (r i : Int) : Nat := classL (m.recM r (placeW i)) (m.copM r (2 * placeW i)) (m.copM r (2 * placeW i + 1)) i
def stateW (p : Rec) (f0 f1 : CopL) (i : Int) : Nat := if 0 ≤ whereL p f0 f1 i then 2 else if p.of i then 3 else if beyL p f0 f1 i ∨ (p.st = 2 ∧ badL f0 f1) then 4 else 1
def rptOf (p : Rec) (f0 f1 : CopL) (i : Int) : Rpt := ⟨i, stateW p f0 f1 i, repX p f0 f1 i, repY p f0 f1 i, repE p f0 f1 i⟩
def DM.rptW (m : DM) (r i : Int) : Rpt := rptOf (m.recM r (placeW i)) (m.copM r (2 * placeW i)) (m.copM r (2 * placeW i + 1)) i
def DM.inW (m : DM) (r i : Int) : Bool := decide (m.clsW r i = 3 ∨ m.clsW r i = 2)
def DM.allTo (m : DM) (r snap : Int) (n : Nat) : List Rpt := (((List.range n).map fun k => snap + 1 + ((k : Nat) : Int)).filter (m.inW r)).map (m.rptW r)
theorem allTo_succ (m : DM) (r snap : Int) (n : Nat) : m.allTo r snap (n + 1) = if m.inW r (snap + 1 + (n : Int)) = true then m.allTo r snap n ++ [m.rptW r (snap + 1 + (n : Int))] else m.allTo r snap n := by
  unfold DM.allTo
  rw [List.range_succ, List.map_append, List.filter_append, List.map_append]
  split
  · rename_i h; simp [h]
  · rename_i h; simp [h]
theorem allTo_pre (m : DM) (r snap : Int) (n : Nat) : ∀ d : Nat, ∃ t, m.allTo r snap (n + d) = m.allTo r snap n ++ t
  | 0 => ⟨[], by simp⟩
  | d + 1 => by
    obtain ⟨t, ht⟩ := allTo_pre m r snap n d
    rw [← Nat.add_assoc, allTo_succ, ht]
    split
    · exact ⟨t ++ [m.rptW r (snap + 1 + ((n + d : Nat) : Int))], by rw [List.append_assoc]⟩
    · exact ⟨t, rfl⟩
theorem clsW_of {m : DM} {r i : Int} {q : Nat} (hq : placeW i = (q : Int)) : m.clsW r i = classL (m.recM r (q : Int)) (m.copM r ((2 * q : Nat) : Int)) (m.copM r ((2 * q + 1 : Nat) : Int)) i := by
  unfold DM.clsW
  rw [hq, show 2 * (q : Int) = ((2 * q : Nat) : Int) from by omega, show ((2 * q : Nat) : Int) + 1 = ((2 * q + 1 : Nat) : Int) from by omega]
theorem rptW_of {m : DM} {r i : Int} {q : Nat} (hq : placeW i = (q : Int)) : m.rptW r i = rptOf (m.recM r (q : Int)) (m.copM r ((2 * q : Nat) : Int)) (m.copM r ((2 * q + 1 : Nat) : Int)) i := by
  unfold DM.rptW
  rw [hq, show 2 * (q : Int) = ((2 * q : Nat) : Int) from by omega, show ((2 * q : Nat) : Int) + 1 = ((2 * q + 1 : Nat) : Int) from by omega]
theorem rpt_told {p : Rec} {f0 f1 : CopL} {i x y : Int} {e : Ent} (hc : classL p f0 f1 i = 3) (hx : repX p f0 f1 i = x) (hy : repY p f0 f1 i = y) (he : repE p f0 f1 i = e) : rptOf p f0 f1 i = ⟨i, 2, x, y, e⟩ := by
  unfold rptOf stateW
  rw [if_pos (classL_three.1 hc), hx, hy, he]
def noopE : Ent := { k := 1 }
theorem noop_ok : enOk noopE = true := by decide
structure PutA where
  at_ : Nat := 0
  x : Int := 0
  y : Int := 0
  e : Ent := {}
def lastP (l : List PutA) : Nat → Nat → Nat
  | 0, _ => 0
  | n + 1, k => if k = 1 + (l.getD n {}).at_ % 24 ∧ (lastP l n k = 0 ∨ gtL (l.getD n {}).x (l.getD n {}).y (l.getD (lastP l n k - 1) {}).x (l.getD (lastP l n k - 1) {}).y) then n + 1 else lastP l n k
def oP (l : List PutA) (n k : Nat) : Option (Int × Int × Ent) := if lastP l n k = 0 then none else some ((l.getD (lastP l n k - 1) {}).x, (l.getD (lastP l n k - 1) {}).y, (l.getD (lastP l n k - 1) {}).e)
theorem lastP_le (l : List PutA) (k : Nat) : ∀ n, lastP l n k ≤ n
  | 0 => Nat.le_refl _
  | n + 1 => by
    have := lastP_le l k n
    unfold lastP
    split <;> omega
structure NPut (m : DM) (r : Int) (l : List PutA) (n : Nat) : Prop where
  cd : CD m (-1)
  ni : NInv m
  sl : ∀ q, q < 24 → SlD m r q ((q + 1 : Nat) : Int) (oP l n (q + 1))
theorem NPut.new (r : Int) (l : List PutA) : NPut (DM.new 156) r l 0 := ⟨CD.new, NInv.new 156, fun _ hq => SlD.new hq r _⟩
theorem oP_far {l : List PutA} {n k : Nat} (h : k ≠ 1 + (l.getD n {}).at_ % 24) : oP l (n + 1) k = oP l n k ∧ lastP l (n + 1) k = lastP l n k := by
  have : lastP l (n + 1) k = lastP l n k := by
    show (if _ then _ else _) = _
    rw [if_neg fun hh => h hh.1]
  exact ⟨by unfold oP; rw [this], this⟩
theorem NPut.skip {m : DM} {r : Int} {l : List PutA} {n k : Nat} (h : NPut m r l n) (hk : k = 1 + (l.getD n {}).at_ % 24) (hs : lastP l n k ≠ 0 ∧ ¬ gtL (l.getD n {}).x (l.getD n {}).y (l.getD (lastP l n k - 1) {}).x (l.getD (lastP l n k - 1) {}).y) : NPut m r l (n + 1) ∧ ∀ k', lastP l (n + 1) k' = lastP l n k' := by
  have all : ∀ k', lastP l (n + 1) k' = lastP l n k' := fun k' => by
    by_cases hkk : k' = k
    · subst hkk
      show (if _ then _ else _) = _
      rw [if_neg]
      rintro ⟨_, hh | hh⟩
      · exact hs.1 hh
      · exact hs.2 hh
    · exact (oP_far (by rw [← hk]; exact hkk)).2
  refine ⟨⟨h.cd, h.ni, fun q hq => ?_⟩, all⟩
  have : oP l (n + 1) (q + 1) = oP l n (q + 1) := by unfold oP; rw [all]
  rw [this]
  exact h.sl q hq
theorem NPut.put {m : DM} {r : Int} {l : List PutA} {n k : Nat} (h : NPut m r l n) (hk : k = 1 + (l.getD n {}).at_ % 24) (hs : lastP l n k = 0 ∨ gtL (l.getD n {}).x (l.getD n {}).y (l.getD (lastP l n k - 1) {}).x (l.getD (lastP l n k - 1) {}).y)
    (hr : 0 ≤ r ∧ r ≤ 6) {inc : Int} (hc : 1 ≤ inc ∧ inc ≤ 1099511627776) (hb : balE (l.getD n {}).x (l.getD n {}).y = true) (he : enOk (l.getD n {}).e = true) :
    ∃ m', m.putW r inc (k : Int) (l.getD n {}).x (l.getD n {}).y (l.getD n {}).e = (0, m') ∧ NPut m' r l (n + 1) ∧ lastP l (n + 1) k = n + 1 ∧ ∀ k', k' ≠ k → lastP l (n + 1) k' = lastP l n k' := by
  obtain ⟨q, hq⟩ : ∃ q, q = (l.getD n {}).at_ % 24 := ⟨_, rfl⟩
  have hq24 : q < 24 := by omega
  have hkq : k = q + 1 := by omega
  have hpl : placeW (k : Int) = (q : Int) := by unfold placeW; omega
  have hnow : lastP l (n + 1) k = n + 1 := by
    show (if _ then _ else _) = _
    rw [if_pos ⟨hk, hs⟩]
  have hfar : ∀ k', k' ≠ k → lastP l (n + 1) k' = lastP l n k' := fun k' hne => (oP_far (by rw [← hk]; exact hne)).2
  have hsl := h.sl q hq24
  rw [← hkq] at hsl
  obtain ⟨m', e1, c1, n1, s1, g1⟩ := SlD.put h.cd (inc := inc) (x := (l.getD n {}).x) (y := (l.getD n {}).y) (e := (l.getD n {}).e) hpl hq24 hsl hr (by omega) hc hb he (by
    unfold oP
    by_cases hz : lastP l n k = 0
    · rw [if_pos hz]; exact .inl rfl
    · rw [if_neg hz]
      refine .inr (.inr ⟨rfl, fun a b c hh => ?_⟩)
      injection hh with hh
      injection hh with h1 hh
      injection hh with h2 h3
      rw [← h1, ← h2]
      exact hs.resolve_left hz)
  refine ⟨m', e1, ⟨c1, n1 h.ni, fun q' hq' => ?_⟩, hnow, hfar⟩
  by_cases hqq : q' = q
  · subst hqq
    rw [← hkq]
    have : oP l (n + 1) k = some ((l.getD n {}).x, (l.getD n {}).y, (l.getD n {}).e) := by
      unfold oP
      rw [hnow, if_neg (by omega), Nat.add_sub_cancel]
    rw [this]
    exact s1
  · rw [(oP_far (l := l) (n := n) (k := q' + 1) (by omega)).1]
    exact SlD.of_same h.cd c1 hq' (g1 q' hq' hqq) (h.sl q' hq')
theorem NPut.hurt {m0 m : DM} {r : Int} {l : List PutA} {n : Nat} (h : NPut m0 r l n) (hf : Flt m0 m) (hs : m.seenB r = true) {k : Nat} (h1 : 1 ≤ k) (h2 : k ≤ 24) :
    (lastP l n k = 0 → m.clsW r (k : Int) ≠ 3) ∧
    (lastP l n k ≠ 0 → (m.clsW r (k : Int) = 3 ∧ m.rptW r (k : Int) = ⟨(k : Int), 2, (l.getD (lastP l n k - 1) {}).x, (l.getD (lastP l n k - 1) {}).y, (l.getD (lastP l n k - 1) {}).e⟩) ∨
      (m.clsW r (k : Int) = 2 ∧ (anyIn m.hurt (firstS 3 ((k - 1 : Nat) : Int)) (wid 3) = true ∨ anyIn m.hurt (firstS 4 ((2 * (k - 1) : Nat) : Int)) (wid 4) = true ∨ anyIn m.hurt (firstS 4 ((2 * (k - 1) + 1 : Nat) : Int)) (wid 4) = true))) := by
  have hq : placeW (k : Int) = ((k - 1 : Nat) : Int) := by unfold placeW; omega
  have hsl := h.sl (k - 1) (by omega)
  rw [show k - 1 + 1 = k from by omega] at hsl
  obtain ⟨a1, a2⟩ := hf.rec_ h.cd h.ni hs (q := k - 1) (by omega)
  obtain ⟨b1, b2⟩ := hf.cop_ h.cd h.ni hs (p := 2 * (k - 1)) (by omega)
  obtain ⟨c1, c2⟩ := hf.cop_ h.cd h.ni hs (p := 2 * (k - 1) + 1) (by omega)
  rw [clsW_of hq, rptW_of hq]
  unfold oP at hsl
  constructor
  · intro hz
    rw [if_pos hz] at hsl
    exact hurt_none hsl a1 b1 c1
  · intro hz
    rw [if_neg hz] at hsl
    rcases hurt_some hsl a1 b1 c1 with ⟨t1, t2, t3, t4⟩ | ⟨t1, t2⟩
    · exact .inl ⟨t1, rpt_told t1 t2 t3 t4⟩
    · refine .inr ⟨t1, ?_⟩
      by_cases u1 : anyIn m.hurt (firstS 3 ((k - 1 : Nat) : Int)) (wid 3) = true
      · exact .inl u1
      · by_cases u2 : anyIn m.hurt (firstS 4 ((2 * (k - 1) : Nat) : Int)) (wid 4) = true
        · exact .inr (.inl u2)
        · by_cases u3 : anyIn m.hurt (firstS 4 ((2 * (k - 1) + 1 : Nat) : Int)) (wid 4) = true
          · exact .inr (.inr u3)
          · exact absurd ⟨a2 (by simpa using u1), b2 (by simpa using u2), c2 (by simpa using u3)⟩ t2
end
section
open Go Go.RowKit Go.ChangeShapes Go.WideShapes Go.Deep
section
variable {H : Type} {enc : TypeId × Value → H} {P : Program} {w : World} {base : Nat} {spare : Nat → Bool} {held : Bool}
end
end
end Go.Proofs.YtnlappoocffcpaaGreatDoor
