/-
  The contract of the document's own Parse of metadata.
-/
import Derived.Test.YtlikhmhomkiadaaDoorURef
namespace Go.Proofs.YtlikhmhomkiadaaDoor
open Go Go.RowKit

theorem uNum_byte {l : List Nat} {x : Nat} (h : l[6]? = some x) : uNum l 1 = x := by
  have hl : 6 < l.length := (List.getElem?_eq_some_iff.1 h).1
  unfold uNum
  rw [show uPos 1 = 6 from rfl, show uW 1 = 1 from rfl, List.drop_eq_getElem_cons hl, List.take_succ_cons, List.take_zero]
  rw [List.getElem?_eq_getElem hl] at h
  rw [Option.some.inj h]
  simp [num]
set_option maxRecDepth 100000 in
set_option maxHeartbeats 1600000 in
theorem rparseU (A : Option Addr) (n cp : Nat) (l : List Nat) (w : World) (hb : By w A n cp l) (hn : n ≤ 9000000000000000000) :
    Calls Tryd.prog 11 #[.slice A n cp] w fun r w' => r = .returned (.tuple #[.agg #[.int .i64 (uF l 0), .int .i64 (uF l 1), .int .i64 (uF l 2)], .int .i64 (uE l)]) ∧ Ext w w' := by
  have hE := (Ext.refl w).alloc (.cells #[.int .i64 0, .int .i64 0, .int .i64 0] 25)
  have hz : (w.alloc (.cells #[.int .i64 0, .int .i64 0, .int .i64 0] 25)).heap[w.heap.size]? = some (.cells #[.int .i64 0, .int .i64 0, .int .i64 0] 25 (0, 0)) := heap_alloc_new w _
  have HB := Lib.hid (hb.ext hE)
  have HE := Lib.hid hE
  have HZ := Lib.hid hz
  by_cases h13 : n = 13
  · subst h13
    have HG0 := Lib.hid (get_num (l := l) (k := 0) (by omega) (by rw [hb.len]; decide))
    have HG2 := Lib.hid (get_num (l := l) (k := 2) (by omega) (by rw [hb.len]; decide))
    obtain ⟨g, o, x, hA, hg, h0, hx0, c6⟩ := HB.out.rd.at_ (k := 6) (by rw [HB.out.len]; omega)
    subst hA
    have HP := Lib.hid (uNum_byte h0)
    have HL := Lib.hid hb.len
    have e1 : IntKind.i64.wrap (x : Int) = (x : Int) := IntWalk.i64_in _ (by omega)
    clear hb hE hz h0
    generalize hW : (w.alloc (.cells #[.int .i64 0, .int .i64 0, .int .i64 0] 25)) = W at *
    have HWX := Lib.hid ((Ext.refl W).alloc (.cells #[.int .i64 (uNum l 0), .int .i64 x, .int .i64 (uNum l 2)] 25))
    have HR := Lib.hid (heap_alloc_new W (.cells #[.int .i64 (uNum l 0), .int .i64 x, .int .i64 (uNum l 2)] 25))
    by_cases hm : mayU (uNum l 0) x (uNum l 2) = true
    · have HM := Lib.hid hm
      have HV := Lib.hid (uV_both HL.out (by rw [HP.out]; exact hm))
      clear hm
      go_enter Tryd.func11, Tryd.ntmps11
      go_wp2_with fail
      refine (rget_any (some ⟨g, o, none⟩) l 13 cp _ 0 6 _ HB.out.len HB.out.rd (by omega)).mono ?_
      rw [show getS l 0 6 = (uNum l 0, 6, 0) from HG0.out]
      rintro r w2 ⟨rfl, rfl⟩
      go_wp2_with fail
      refine (rget_any (some ⟨g, o, none⟩) l 13 cp _ 7 6 _ HB.out.len HB.out.rd (by omega)).mono ?_
      rw [show getS l 7 6 = (uNum l 2, 13, 0) from HG2.out]
      rintro r w2 ⟨rfl, rfl⟩
      go_wp2_with fail
      refine (rmayU _ _ _ _).mono ?_
      rw [HM.out]
      rintro r w3 ⟨rfl, hx⟩
      have hx := HWX.out.trans hx
      have hb2 := (hx.block _ (Array.getElem?_eq_some_iff.1 HZ.out).1).trans HZ.out
      have hr2 : w3.heap[W.heap.size]? = _ := ((show Ext _ w3 by assumption).block _ (Array.getElem?_eq_some_iff.1 HR.out).1).trans HR.out
      have HE := Lib.hid (HE.out.trans hx)
      clear hx c6 e1
      obtain ⟨⟨c0, c1, c2⟩, f0, f1, f2⟩ := three_cells hb2
      obtain ⟨⟨d0, d1, d2⟩, _⟩ := three_cells hr2
      clear hb2 hr2
      go_wp2_with fail
      refine bodyPost_ret (v := .tuple #[.agg #[.int .i64 (uNum l 0), .int .i64 x, .int .i64 (uNum l 2)], .int .i64 0]) ?_ rfl ⟨?_, ?_⟩
      · simp [results, Tryd.results11, go_sem, c0, c1, c2]
      · rw [uF_yes HV.out, uF_yes HV.out, uF_yes HV.out, uE_yes HV.out, HP.out]
      · exact three_ext HE.out (Nat.le_refl _) _ _ _
    · have hm' : mayU (uNum l 0) x (uNum l 2) = false := by simpa using hm
      have HM := Lib.hid hm'
      have HV := Lib.hid (uV_may (l := l) (by rw [HP.out]; exact hm'))
      clear hm hm'
      go_enter Tryd.func11, Tryd.ntmps11
      go_wp2_with fail
      refine (rget_any (some ⟨g, o, none⟩) l 13 cp _ 0 6 _ HB.out.len HB.out.rd (by omega)).mono ?_
      rw [show getS l 0 6 = (uNum l 0, 6, 0) from HG0.out]
      rintro r w2 ⟨rfl, rfl⟩
      go_wp2_with fail
      refine (rget_any (some ⟨g, o, none⟩) l 13 cp _ 7 6 _ HB.out.len HB.out.rd (by omega)).mono ?_
      rw [show getS l 7 6 = (uNum l 2, 13, 0) from HG2.out]
      rintro r w2 ⟨rfl, rfl⟩
      go_wp2_with fail
      refine (rmayU _ _ _ _).mono ?_
      rw [HM.out]
      rintro r w3 ⟨rfl, hx⟩
      have hx := HWX.out.trans hx
      have hb2 := (hx.block _ (Array.getElem?_eq_some_iff.1 HZ.out).1).trans HZ.out
      have HE := Lib.hid (HE.out.trans hx)
      clear hx c6 e1
      obtain ⟨⟨c0, c1, c2⟩, f0, f1, f2⟩ := three_cells hb2
      clear hb2
      go_wp2_with fail
      refine bodyPost_ret (v := .tuple #[.agg #[.int .i64 0, .int .i64 0, .int .i64 0], .int .i64 80]) ?_ rfl ⟨?_, ?_⟩
      · simp [results, Tryd.results11, go_sem, c0, c1, c2]
      · rw [uF_no HV.out, uF_no HV.out, uF_no HV.out, uE_no HV.out]; rfl
      · exact three_ext HE.out (Nat.le_refl _) _ _ _
  · have HV := Lib.hid (uV_len (l := l) (by rw [hb.len]; exact h13))
    have hne : ((n : Int) != (13 : Int)) = true := by rw [bne_iff_ne]; omega
    obtain ⟨⟨c0, c1, c2⟩, f0, f1, f2⟩ := three_cells hz
    clear hb hE hz h13
    go_enter Tryd.func11, Tryd.ntmps11
    go_wp2_with fail
    refine bodyPost_ret (v := .tuple #[.agg #[.int .i64 0, .int .i64 0, .int .i64 0], .int .i64 80]) ?_ rfl ⟨?_, ?_⟩
    · simp [results, Tryd.results11, go_sem, c0, c1, c2]
    · rw [uF_no HV.out, uF_no HV.out, uF_no HV.out, uE_no HV.out]; rfl
    · exact HE.out
end Go.Proofs.YtlikhmhomkiadaaDoor
