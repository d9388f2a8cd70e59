/-
  The contract of the document's own Parse.
-/
import Derived.Test.YtlikhmhomkiadaaGreatDoorM09
import Derived.Test.YtlikhmhomkiadaaGreatDoorM10
import Derived.Test.YtlikhmhomkiadaaGreatDoorM11
import Derived.Deep.RegionHeld3
namespace Go.Proofs.YtlikhmhomkiadaaGreatDoor
set_option maxRecDepth 100000
open Go Go.RowKit

theorem num_one (x : Nat) : num [x] = x := by simp [num]
theorem pfld_byte {l : List Nat} {k x : Nat} (hk : k < 3) (h : l[k]? = some x) : pfld l k = x := by
  have hj : k = 0 ∨ k = 1 ∨ k = 2 := by omega
  have hp : pos k = k ∧ wth k = 1 := by rcases hj with rfl | rfl | rfl <;> exact ⟨rfl, rfl⟩
  have hl : k < l.length := (List.getElem?_eq_some_iff.1 h).1
  unfold pfld
  rw [hp.1, hp.2, List.drop_eq_getElem_cons hl, List.take_succ_cons, List.take_zero, num_one]
  rw [List.getElem?_eq_getElem hl] at h
  exact Option.some.inj h

set_option maxRecDepth 100000 in
set_option maxHeartbeats 3200000 in
theorem rparse_any (A : Option Addr) (n cp : Nat) (l : List Nat) (w : World) (hb : By w A n cp l) (hn : n ≤ 9000000000000000000) :
    Calls Tryz.prog 140 #[.slice A n cp] w fun r w' => r = .returned (.tuple #[.agg #[.int .i64 (pf l 0), .int .i64 (pf l 1), .int .i64 (pf l 2), .int .i64 (pf l 3), .int .i64 (pf l 4)], .int .i64 (pe l)]) ∧ Ext w w' := by
  have hE := (Ext.refl w).alloc (.cells #[.int .i64 0, .int .i64 0, .int .i64 0, .int .i64 0, .int .i64 0] 33)
  have hz : (w.alloc (.cells #[.int .i64 0, .int .i64 0, .int .i64 0, .int .i64 0, .int .i64 0] 33)).heap[w.heap.size]? = some (.cells #[.int .i64 0, .int .i64 0, .int .i64 0, .int .i64 0, .int .i64 0] 33 (0, 0)) := heap_alloc_new w _
  have HB := Lib.hid (hb.ext hE)
  have HE := Lib.hid hE
  have HZ := Lib.hid hz
  by_cases h15 : n = 15
  · subst h15
    have HG3 := Lib.hid (get_fld (l := l) (k := 3) (by omega) (by rw [hb.len]; decide))
    have HG4 := Lib.hid (get_fld (l := l) (k := 4) (by omega) (by rw [hb.len]; decide))
    obtain ⟨g, o, x0, hA, hg, h0, hx0, c0⟩ := HB.out.rd.at_ (k := 0) (by rw [HB.out.len]; omega)
    subst hA
    obtain ⟨g', o', x1, hA, _, h1, hx1, c1⟩ := HB.out.rd.at_ (k := 1) (by rw [HB.out.len]; omega)
    injection hA with hA; injection hA with hA1 hA2; subst hA1; subst hA2
    obtain ⟨g', o', x2, hA, _, h2, hx2, c2⟩ := HB.out.rd.at_ (k := 2) (by rw [HB.out.len]; omega)
    injection hA with hA; injection hA with hA1 hA2; subst hA1; subst hA2
    have HP0 := Lib.hid (pfld_byte (by omega) h0)
    have HP1 := Lib.hid (pfld_byte (by omega) h1)
    have HP2 := Lib.hid (pfld_byte (by omega) h2)
    have HL := Lib.hid hb.len
    clear hb hE hz h0 h1 h2
    go_enter Tryz.func140, Tryz.ntmps140
    go_wp2_with fail
    refine (rget_any (some ⟨g, o, none⟩) l 15 cp _ 3 6 _ HB.out.len HB.out.rd (by omega)).mono ?_
    rw [show getS l 3 6 = (pfld l 3, 9, 0) from HG3.out]
    rintro r w2 ⟨rfl, rfl⟩
    go_wp2_with fail
    refine (rget_any (some ⟨g, o, none⟩) l 15 cp _ 9 6 _ HB.out.len HB.out.rd (by omega)).mono ?_
    rw [show getS l 9 6 = (pfld l 4, 15, 0) from HG4.out]
    rintro r w2 ⟨rfl, rfl⟩
    go_wp2_with fail
    generalize (w.alloc (.cells #[.int .i64 0, .int .i64 0, .int .i64 0, .int .i64 0, .int .i64 0] 33)) = W at *
    have hne := World.new_ne W _ c0
    rw [Nat.add_zero] at c0
    have e0 : IntKind.i64.wrap (x0 : Int) = (x0 : Int) := IntWalk.i64_in _ (by omega)
    have e1 : IntKind.i64.wrap (x1 : Int) = (x1 : Int) := IntWalk.i64_in _ (by omega)
    have e2 : IntKind.i64.wrap (x2 : Int) = (x2 : Int) := IntWalk.i64_in _ (by omega)
    go_region_held3 (fun w' => w'.cell? ⟨g, o, none⟩ = some (.int .u8 x0) ∧ w'.cell? ⟨g, o + 1, none⟩ = some (.int .u8 x1) ∧ w'.cell? ⟨g, o + 2, none⟩ = some (.int .u8 x2))
      (first | with_reducible exact ⟨c0, c1, c2⟩ | go_keep)
      (first | (go_at_call 0; fail))
    clear e0 e1 e2 c0 c1 c2 hne
    have hx1 : Ext W (W.alloc (.cells #[.int .i64 x0, .int .i64 x1, .int .i64 x2, .int .i64 (pfld l 3), .int .i64 (pfld l 4)] 33)).drew := ((Ext.refl W).alloc _).drew
    have hlt0 : w.heap.size < W.heap.size := (Array.getElem?_eq_some_iff.1 HZ.out).1
    have hz1 := (hx1.block _ hlt0).trans HZ.out
    have hr1 : (W.alloc (.cells #[.int .i64 x0, .int .i64 x1, .int .i64 x2, .int .i64 (pfld l 3), .int .i64 (pfld l 4)] 33)).drew.heap[W.heap.size]? = some (.cells #[.int .i64 x0, .int .i64 x1, .int .i64 x2, .int .i64 (pfld l 3), .int .i64 (pfld l 4)] 33 (0, 0)) := heap_alloc_new W _
    have HZ1 := Lib.hid hz1
    have HR1 := Lib.hid hr1
    have HX1 := Lib.hid (HE.out.trans hx1)
    clear hx1 hlt0 hz1 hr1
    by_cases hm : mayB (x0 : Int) x1 x2 (pfld l 3) (pfld l 4) = true
    · have HM := Lib.hid hm
      have HV := Lib.hid (PV_both HL.out (by rw [HP0.out, HP1.out, HP2.out]; exact hm))
      clear hm
      go_wp2_with fail
      refine (rmay_any _ _ _ _ _ _).mono ?_
      rw [HM.out]
      rintro r w3 ⟨rfl, hx⟩
      have hb2 := (hx.block _ (Array.getElem?_eq_some_iff.1 HZ1.out).1).trans HZ1.out
      have hr2 := (hx.block _ (Array.getElem?_eq_some_iff.1 HR1.out).1).trans HR1.out
      have HE := Lib.hid (HX1.out.trans hx)
      clear hx
      obtain ⟨⟨c0, c1, c2, c3, c4⟩, f0, f1, f2, f3, f4⟩ := five_cells hb2
      obtain ⟨⟨d0, d1, d2, d3, d4⟩, _⟩ := five_cells hr2
      clear hb2 hr2
      go_wp2_with fail
      refine bodyPost_ret (v := .tuple #[.agg #[.int .i64 x0, .int .i64 x1, .int .i64 x2, .int .i64 (pfld l 3), .int .i64 (pfld l 4)], .int .i64 0]) ?_ rfl ⟨?_, ?_⟩
      · simp [results, Tryz.results140, go_sem, c0, c1, c2, c3, c4]
      · rw [pf_yes HV.out, pf_yes HV.out, pf_yes HV.out, pf_yes HV.out, pf_yes HV.out, pe_yes HV.out, HP0.out, HP1.out, HP2.out]
      · exact five_ext HE.out (Nat.le_refl _) _ _ _ _ _
    · have hm' : mayB (x0 : Int) x1 x2 (pfld l 3) (pfld l 4) = false := by simpa using hm
      have HM := Lib.hid hm'
      have HV := Lib.hid (PV_may (l := l) (by rw [HP0.out, HP1.out, HP2.out]; exact hm'))
      clear hm hm'
      go_wp2_with fail
      refine (rmay_any _ _ _ _ _ _).mono ?_
      rw [HM.out]
      rintro r w3 ⟨rfl, hx⟩
      have hb2 := (hx.block _ (Array.getElem?_eq_some_iff.1 HZ1.out).1).trans HZ1.out
      have HE := Lib.hid (HX1.out.trans hx)
      clear hx
      obtain ⟨⟨c0, c1, c2, c3, c4⟩, f0, f1, f2, f3, f4⟩ := five_cells hb2
      clear hb2
      go_wp2_with fail
      refine bodyPost_ret (v := .tuple #[.agg #[.int .i64 0, .int .i64 0, .int .i64 0, .int .i64 0, .int .i64 0], .int .i64 30]) ?_ rfl ⟨?_, ?_⟩
      · simp [results, Tryz.results140, go_sem, c0, c1, c2, c3, c4]
      · rw [pf_no HV.out, pf_no HV.out, pf_no HV.out, pf_no HV.out, pf_no HV.out, pe_no HV.out]; rfl
      · exact five_ext HE.out (Nat.le_refl _) _ _ _ _ _
  · have HV := Lib.hid (PV_len (l := l) (by rw [hb.len]; exact h15))
    have hne : ((n : Int) != (15 : Int)) = true := by rw [bne_iff_ne]; omega
    obtain ⟨⟨c0, c1, c2, c3, c4⟩, f0, f1, f2, f3, f4⟩ := five_cells hz
    clear hb hE hz h15
    go_enter Tryz.func140, Tryz.ntmps140
    go_wp2_with fail
    refine bodyPost_ret (v := .tuple #[.agg #[.int .i64 0, .int .i64 0, .int .i64 0, .int .i64 0, .int .i64 0], .int .i64 30]) ?_ rfl ⟨?_, ?_⟩
    · simp [results, Tryz.results140, go_sem, c0, c1, c2, c3, c4]
    · rw [pf_no HV.out, pf_no HV.out, pf_no HV.out, pf_no HV.out, pf_no HV.out, pe_no HV.out]; rfl
    · exact HE.out
end Go.Proofs.YtlikhmhomkiadaaGreatDoor
