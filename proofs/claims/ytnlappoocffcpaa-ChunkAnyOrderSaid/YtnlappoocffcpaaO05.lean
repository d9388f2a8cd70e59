/-
  The contract of the chunk statements' own first look at the chapter's examples: it answers true and writes nothing that was there.
-/
import Derived.Test.YtnlappoocffcpaaO00
import Derived.Test.YtnlappoocffcpaaO04
import Derived.OwnWalk
import Derived.Deep.RegionLaw
namespace Go.Proofs.Ytnlappoocffcpaa
set_option maxRecDepth 100000
section
open Go Go.RowKit
def zrowZ (k : Nat) : Obj := .cells (madeCells #[.int .u8 0] k) 5
theorem mk_zerosZ (k : Nat) (hk : k ≤ 1000) (w : World) : (Instr.makeSlice 22 (.int .i64 (k : Int)) (.int .i64 (k : Int))).run Try.prog w = .ok (.slice (some ⟨w.heap.size, 0, none⟩) k k) (w.alloc (zrowZ k)) := by
  obtain ⟨i0, hi, hz0, hz1, hz2⟩ := info_parts byte_info
  rw [run_make w 22 5 i0 (.int .u8 0) Try.underlying22 hi hz0 .i64 .i64 (k : Int) (k : Int) (by omega) (Int.le_refl _) (by rw [hz2]; omega) (by omega), hz1, Int.toNat_natCast, Nat.mul_one]
  rfl
theorem By.zrowZ (w : World) (k : Nat) (hk : k ≤ 1000) : By (w.alloc (zrowZ k)) (some ⟨w.heap.size, 0, none⟩) k k (List.replicate k 0) := by
  refine By.of_row (heap_alloc_new w (.cells (madeCells #[.int .u8 0] k) 5)) (fun j x hx => ?_) (by intro b hb; rw [(List.mem_replicate.1 hb).2]; omega) (by simp) (Nat.le_refl _) (by omega)
  have e : (madeCells #[Value.int .u8 0] k).toList = List.replicate k (Value.int .u8 0) := toList_madeCells_one _ _
  rw [← Array.getElem?_toList, e]
  rw [List.getElem?_replicate] at hx ⊢
  split at hx
  · rename_i hj
    injection hx with hx
    subst hx
    rw [if_pos hj]
    rfl
  · cases hx
theorem zsplit_two (k x y : Nat) (hk : k ≤ 640) (hs : (splitL (List.replicate k 0)).map List.length = [x, y]) (w : World) :
    Calls Try.prog 10 #[.slice (some ⟨w.heap.size, 0, none⟩) k k] (w.alloc (zrowZ k)) fun e w' => ∃ g o c A0 c0 A1 c1, e = .returned (.tuple #[.slice (some ⟨g, o, none⟩) 2 c, .int .i64 0]) ∧ 2 ≤ c ∧ c ≤ 9223372036854775807 ∧
      w'.cell? ⟨g, o + 0, none⟩ = some (.slice A0 x c0) ∧ w'.cell? ⟨g, o + 1, none⟩ = some (.slice A1 y c1) ∧ Ext w w' :=
  (zsplit_lsts _ k k _ (By.zrowZ w k (by omega)) hk).mono fun e w' ⟨A, c, L, he, hL, hl, hx⟩ => by
    have h2 : L.map (fun a => a.l.length) = [x, y] := by
      rw [← hl] at hs
      unfold lsOf at hs
      rw [List.map_map] at hs
      exact hs
    obtain ⟨a0, a1, rfl⟩ : ∃ a0 a1, L = [a0, a1] := by
      clear hL hs hl he
      have hn := congrArg List.length h2
      rw [List.length_map] at hn
      match L, hn with
      | [a0, a1], _ => exact ⟨a0, a1, rfl⟩
    injection h2 with h0 h2
    injection h2 with h1 _
    have h0 : a0.l.length = x := h0
    have h1 : a1.l.length = y := h1
    obtain ⟨g, o, rfl, hg, hc⟩ := hL.rd (by simp)
    have e0 := (hL.each a0 (by simp)).len
    have e1 := (hL.each a1 (by simp)).len
    have q0 := hc 0 a0 rfl
    have q1 := hc 1 a1 rfl
    rw [← e0, h0] at q0
    rw [← e1, h1] at q1
    exact ⟨g, o, c, _, _, _, _, he, hL.cap, hL.most, q0, q1, ((Ext.refl w).alloc _).trans hx⟩
theorem zsplit_empty (w : World) :
    Calls Try.prog 10 #[.slice none 0 0] w fun e w' => ∃ g o c A0 c0, e = .returned (.tuple #[.slice (some ⟨g, o, none⟩) 1 c, .int .i64 0]) ∧ 1 ≤ c ∧ c ≤ 9223372036854775807 ∧ w'.cell? ⟨g, o + 0, none⟩ = some (.slice A0 0 c0) ∧ Ext w w' :=
  (zsplit_lsts _ 0 0 _ (By.nil_ w) (by omega)).mono fun e w' ⟨A, c, L, he, hL, hl, hx⟩ => by
    have hs : (splitL []).map List.length = [0] := by decide +kernel
    have h2 : L.map (fun a => a.l.length) = [0] := by
      rw [← hl] at hs
      unfold lsOf at hs
      rw [List.map_map] at hs
      exact hs
    obtain ⟨a0, rfl⟩ : ∃ a0, L = [a0] := by
      have hn := congrArg List.length h2
      rw [List.length_map] at hn
      exact List.length_eq_one_iff.1 hn
    injection h2 with h0 _
    have h0 : a0.l.length = 0 := h0
    obtain ⟨g, o, rfl, hg, hc⟩ := hL.rd (by simp)
    have e0 := (hL.each a0 (by simp)).len
    have q0 := hc 0 a0 rfl
    rw [← e0, h0] at q0
    exact ⟨g, o, c, _, _, he, hL.cap, hL.most, q0, hx⟩
theorem zjoin_aw (V : World) (g1 g2 : Nat) (h1 : By V (some ⟨g1, 0, none⟩) 79 79 (List.replicate 79 0)) (h2 : By V (some ⟨g2, 0, none⟩) 1 1 (List.replicate 1 0)) :
    Calls Try.prog 13 #[.slice (some ⟨V.heap.size, 0, none⟩) 2 2] (V.alloc (.cells #[.slice (some ⟨g1, 0, none⟩) 79 79, .slice (some ⟨g2, 0, none⟩) 1 1] 22)) fun e w' => ∃ A' N' c', e = .returned (.tuple #[.slice A' N' c', .int .i64 2]) ∧ Ext V w' := by
  have hx := (Ext.refl V).alloc (.cells #[.slice (some ⟨g1, 0, none⟩) 79 79, .slice (some ⟨g2, 0, none⟩) 1 1] 22)
  have hr := heap_alloc_new V (.cells #[.slice (some ⟨g1, 0, none⟩) 79 79, .slice (some ⟨g2, 0, none⟩) 1 1] 22)
  refine (zjoin_of _ 2 2 [⟨some ⟨g1, 0, none⟩, 79, 79, List.replicate 79 0⟩, ⟨some ⟨g2, 0, none⟩, 1, 1, List.replicate 1 0⟩] ⟨rfl, Nat.le_refl _, by omega, fun a ha => ?_, fun _ => ⟨V.heap.size, 0, rfl, by simp, fun j a ha => ?_⟩, fun h => by cases h⟩).mono fun e w' ⟨A', N', c', he, _, _, hw⟩ => ⟨A', N', c', he.trans ?_, hx.trans hw⟩
  · rcases List.mem_cons.1 ha with rfl | ha
    · exact By.ext h1 hx
    · rcases List.mem_cons.1 ha with rfl | ha
      · exact By.ext h2 hx
      · cases ha
  · match j, ha with
    | 0, ha => injection ha with ha; subst ha; exact cell_of_row _ _ 0 _ _ _ hr
    | 1, ha => injection ha with ha; subst ha; exact cell_of_row _ _ 1 _ _ _ hr
    | j + 2, ha => cases ha
  · rw [show joinE (lsOf [⟨some ⟨g1, 0, none⟩, 79, 79, List.replicate 79 0⟩, ⟨some ⟨g2, 0, none⟩, 1, 1, List.replicate 1 0⟩]) = 2 from by
      show joinE [List.replicate 79 0, List.replicate 1 0] = 2
      decide +kernel]
theorem zjoin_aw1 (V : World) : Calls Try.prog 13 #[.slice (some ⟨V.heap.size + 1 + 1, 0, none⟩) 2 2] (((V.alloc (zrowZ 79)).alloc (zrowZ 1)).alloc (.cells #[.slice (some ⟨V.heap.size, 0, none⟩) 79 79, .slice (some ⟨V.heap.size + 1, 0, none⟩) 1 1] 22)) fun e w' => ∃ A' N' c', e = .returned (.tuple #[.slice A' N' c', .int .i64 2]) ∧ Ext V w' := by
  have h := zjoin_aw ((V.alloc (zrowZ 79)).alloc (zrowZ 1)) V.heap.size (V.heap.size + 1) ((By.zrowZ V 79 (by omega)).ext ((Ext.refl _).alloc _)) (by
    have := By.zrowZ (V.alloc (zrowZ 79)) 1 (by omega)
    rw [World.size_alloc] at this
    exact this)
  rw [World.size_alloc, World.size_alloc] at h
  exact h.mono fun e w' ⟨A', N', c', he, hx⟩ => ⟨A', N', c', he, (((Ext.refl V).alloc _).alloc _).trans hx⟩
theorem zjoin_aw2 (V : World) : Calls Try.prog 13 #[.slice (some ⟨V.heap.size + 1 + 1, 0, none⟩) 2 2] (((V.alloc (zrowZ 1)).alloc (zrowZ 79)).alloc (.cells #[.slice (some ⟨V.heap.size + 1, 0, none⟩) 79 79, .slice (some ⟨V.heap.size, 0, none⟩) 1 1] 22)) fun e w' => ∃ A' N' c', e = .returned (.tuple #[.slice A' N' c', .int .i64 2]) ∧ Ext V w' := by
  have h := zjoin_aw ((V.alloc (zrowZ 1)).alloc (zrowZ 79)) (V.heap.size + 1) V.heap.size (by
    have := By.zrowZ (V.alloc (zrowZ 1)) 79 (by omega)
    rw [World.size_alloc] at this
    exact this) ((By.zrowZ V 1 (by omega)).ext ((Ext.refl _).alloc _))
  rw [World.size_alloc, World.size_alloc] at h
  exact h.mono fun e w' ⟨A', N', c', he, hx⟩ => ⟨A', N', c', he, (((Ext.refl V).alloc _).alloc _).trans hx⟩
theorem zmissing_aw {w : World} {h bm : Nat} (z : ZH w h 2 bm 0 (fun _ => none)) :
    Calls Try.prog 27 #[.pointer (some ⟨h, 0, none⟩)] w fun e w' => ∃ g c, e = .returned (.slice (some ⟨g, 0, none⟩) 2 c) ∧ 2 ≤ c ∧ c ≤ 9223372036854775807 ∧ w'.cell? ⟨g, 0, none⟩ = some (.int .i64 0) ∧ w'.cell? ⟨g, 1, none⟩ = some (.int .i64 1) ∧ Ext w w' :=
  (zmissing_yes z).mono fun e w' ⟨A, c, he, hrow, hx⟩ => by
    have hm : missZ (fun _ => none) 2 = [0, 1] := by decide +kernel
    rw [hm] at he hrow
    obtain ⟨A', c', e2, h1, h2⟩ := own_form hrow
    injection e2 with e2 _ e3
    subst e2; subst e3
    rcases hrow.2 with ⟨_, h0⟩ | ⟨g, cap, cur, hv, _⟩
    · cases h0
    · injection hv with hA _ _
      subst hA
      exact ⟨g, c, he, h1, h2, hrow.cellAt 0 (by decide), hrow.cellAt 1 (by decide), hx⟩
theorem eqlH_some_nil (a : Addr) (w : World) : (binOp .eql 39 (.pointer (some a)) (.pointer none)).run Try.prog w = .ok (.bool false) w := by
  have h : ∀ d : Nat, (Op.equalIn (d + 1) 39 (.pointer (some a)) (.pointer none)).run Try.prog w = .ok false w := fun d => by
    simp [Op.equalIn, run_underlying Try.underlying39]
  simp only [binOp]
  simp [Op.equal, Op.maxDepth, h 9999]
set_option maxHeartbeats 3200000 in
theorem zawake_any (w : World) : Calls Try.prog 29 #[] w fun e w' => e = .returned (.bool true) ∧ Ext w w' := by
  have mk81 : ∀ w, (Instr.makeSlice 22 (.int .i64 81) (.int .i64 81)).run Try.prog w = .ok (.slice (some ⟨w.heap.size, 0, none⟩) 81 81) (w.alloc (zrowZ 81)) := mk_zerosZ 81 (by omega)
  have mk160 : ∀ w, (Instr.makeSlice 22 (.int .i64 160) (.int .i64 160)).run Try.prog w = .ok (.slice (some ⟨w.heap.size, 0, none⟩) 160 160) (w.alloc (zrowZ 160)) := mk_zerosZ 160 (by omega)
  have mk641 : ∀ w, (Instr.makeSlice 22 (.int .i64 641) (.int .i64 641)).run Try.prog w = .ok (.slice (some ⟨w.heap.size, 0, none⟩) 641 641) (w.alloc (zrowZ 641)) := mk_zerosZ 641 (by omega)
  have mk79 : ∀ w, (Instr.makeSlice 22 (.int .i64 79) (.int .i64 79)).run Try.prog w = .ok (.slice (some ⟨w.heap.size, 0, none⟩) 79 79) (w.alloc (zrowZ 79)) := mk_zerosZ 79 (by omega)
  have mk1 : ∀ w, (Instr.makeSlice 22 (.int .i64 1) (.int .i64 1)).run Try.prog w = .ok (.slice (some ⟨w.heap.size, 0, none⟩) 1 1) (w.alloc (zrowZ 1)) := mk_zerosZ 1 (by omega)
  go_enter Try.func29, Try.ntmps29
  go_wp2_with fail
  refine (zsplit_two 81 80 1 (by omega) (by decide +kernel) w).mono ?_
  rintro e w1 ⟨g1, o1, c1, A0, p0, A1, p1, rfl, l1, m1, q0, q1, hx1⟩
  have HX1 : Hid (Ext w w1) := Lib.hid hx1
  have HA := Lib.hid (And.intro q0 q1)
  clear q0 q1 hx1 mk81
  go_wp2_with fail
  refine (zsplit_two 160 80 80 (by omega) (by decide +kernel) w1).mono ?_
  rintro e w2 ⟨g2, o2, c2, A2, p2, A3, p3, rfl, l2, m2, q0, q1, hx1⟩
  have HA := Lib.hid (And.intro (ext_of_cell hx1 HA.out.1) (ext_of_cell hx1 HA.out.2))
  have HX2 : Hid (Ext w w2) := Lib.hid (HX1.out.trans hx1)
  have HB := Lib.hid (And.intro q0 q1)
  clear q0 q1 hx1 mk160 HX1
  go_wp2_with fail
  refine (zsplit_empty w2).mono ?_
  rintro e w3 ⟨g3, o3, c3, A4, p4, rfl, l3, m3, q0, hx1⟩
  have HA := Lib.hid (And.intro (ext_of_cell hx1 HA.out.1) (ext_of_cell hx1 HA.out.2))
  have HB := Lib.hid (And.intro (ext_of_cell hx1 HB.out.1) (ext_of_cell hx1 HB.out.2))
  have HX3 : Hid (Ext w w3) := Lib.hid (HX2.out.trans hx1)
  have HC := Lib.hid q0
  clear q0 hx1 HX2
  go_wp2_with fail
  refine (zsplit_no _ 641 641 (by omega) _).mono ?_
  rintro e w4 ⟨rfl, hx1⟩
  have hx1 : Ext w3 w4.drew := Below.drew (((Ext.refl w3).alloc (zrowZ 641)).trans hx1)
  have HX4 : Hid (Ext w w4.drew) := Lib.hid (HX3.out.trans hx1)
  have HA := Lib.hid (And.intro (ext_of_cell hx1 HA.out.1) (ext_of_cell hx1 HA.out.2))
  have HB := Lib.hid (And.intro (ext_of_cell hx1 HB.out.1) (ext_of_cell hx1 HB.out.2))
  have HC := Lib.hid (ext_of_cell hx1 HC.out)
  have HJ1 := Lib.hid (zjoin_aw1 w4.drew)
  have HJ2 := Lib.hid (zjoin_aw2 w4.drew)
  clear hx1 HX3 mk641
  go_upto_region 5 with (fail)
  go_region_law (go_simp; go_at_call 13; first
    | (refine (HJ1.out).mono ?_; rintro e w5 ⟨A5, n5, c5, rfl, hx⟩; have HX5 := Lib.hid hx; clear hx HJ1 HJ2)
    | (refine (HJ2.out).mono ?_; rintro e w5 ⟨A5, n5, c5, rfl, hx⟩; have HX5 := Lib.hid hx; clear hx HJ1 HJ2))
  all_goals
    go_wp2_with fail
    refine (znew_yes 2 (by omega) w5).mono ?_
    rintro e w6 ⟨h, bm, rfl, z, hx, _, _⟩
    have hx := HX5.out.trans hx
    have HX6 : Hid (Ext w w6) := Lib.hid (HX4.out.trans hx)
    have HA := Lib.hid (And.intro (ext_of_cell hx HA.out.1) (ext_of_cell hx HA.out.2))
    have HB := Lib.hid (And.intro (ext_of_cell hx HB.out.1) (ext_of_cell hx HB.out.2))
    have HC := Lib.hid (ext_of_cell hx HC.out)
    have HZ := Lib.hid z
    have hen := eqlH_some_nil
    clear hx z HX5 HX4 mk79 mk1
    go_wp2_with fail
    refine (zmissing_aw HZ.out).mono ?_
    rintro e w7 ⟨g7, c7, rfl, l7, m7, q0, q1, hx⟩
    have HX7 : Hid (Ext w w7) := Lib.hid (HX6.out.trans hx)
    have a0 : w7.cell? ⟨g1, o1, none⟩ = some (.slice A0 80 p0) := ext_of_cell hx HA.out.1
    have a1 := ext_of_cell hx HA.out.2
    have b0 : w7.cell? ⟨g2, o2, none⟩ = some (.slice A2 80 p2) := ext_of_cell hx HB.out.1
    have b1 := ext_of_cell hx HB.out.2
    have k0 : w7.cell? ⟨g3, o3, none⟩ = some (.slice A4 0 p4) := ext_of_cell hx HC.out
    clear hx HA HB HC HZ HX6 hen
    go_wp2_with fail
    trace_state
    go_ret
    exact ⟨rfl, HX7.out⟩
end
end Go.Proofs.Ytnlappoocffcpaa
