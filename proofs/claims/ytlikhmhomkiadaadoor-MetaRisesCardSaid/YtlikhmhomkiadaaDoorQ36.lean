/-
  The walk of MetaBack: metadata that are printed are parsed as they were; bytes that are parsed are those of what they are.
-/
import Derived.Test.YtlikhmhomkiadaaDoorQ35
namespace Go.Proofs.YtlikhmhomkiadaaDoor
open Go Go.RowKit

theorem meta_neq (a b c a' b' c' : Int) (w : World) : (binOp .neq 25 (.agg #[.int .i64 a, .int .i64 b, .int .i64 c]) (.agg #[.int .i64 a', .int .i64 b', .int .i64 c'])).run Tryd.prog w = .ok (.bool (!(a == a' && (b == b' && c == c')))) w := by
  have hf : Tryd.prog.stoodInHeld 25 = false := by kernel_rfl
  have hu := Tryd.underlying25
  have hu2 := Tryd.underlying23
  rw [run_neq_struct, run_equalIn_agg _ _ _ _ _ (by rw [Program.fieldsOf, hu]) hf, Program.fieldsOf, hu]
  simp [Op.eqFields, go_sem]
  by_cases h1 : a = a' <;> by_cases h2 : b = b' <;> by_cases h3 : c = c' <;> simp [h1, h2, h3]

set_option maxRecDepth 100000 in
set_option maxHeartbeats 1600000 in
theorem metaBack_law (a b c : Int) (A : Option Addr) (n cp : Nat) (l : List Nat) (w : World) (hb : Bs w w.heap.size A n cp l) (hL : LaidF w) :
    Calls Tryd.prog 4 #[.agg #[.int .i64 a, .int .i64 b, .int .i64 c], .slice A n cp] w fun r w' => r = .returned (.bool true) ∧ Below w.heap.size w w' := by
  show Calls Tryd.prog 4 #[.agg #[.int .i64 a, .int .i64 b, .int .i64 c], .slice A n cp] w fun r w' => r = .returned (.bool true) ∧ Ext w w'
  have hE := (Ext.refl w).alloc (.cells #[.int .i64 a, .int .i64 b, .int .i64 c] 25)
  have hcap := hb.cap
  have hmost := hb.most
  have HT := Lib.hid (heap_alloc_new w (.cells #[.int .i64 a, .int .i64 b, .int .i64 c] 25))
  have HB : Hid (By w A n cp l) := Lib.hid hb
  have HBL : Hid (∀ x ∈ l, x < 256) := Lib.hid hb.rd.lt
  have HL := Lib.hid hL
  have HE := Lib.hid hE
  clear hE hb hL
  by_cases hn : 100 < n
  · obtain ⟨⟨t0, t1, t2⟩, _⟩ := three_cells HT.out
    go_enter Tryd.func4, Tryd.ntmps4
    go_wp2_with fail
    refine (uawake_any _ _ (Ext.refl _) (HL.out.ext HE.out)).mono ?_
    rintro r w1 ⟨rfl, hx⟩
    have HE := Lib.hid (HE.out.trans hx)
    clear hx
    go_wp2_with fail
    go_ret
    exact ⟨rfl, HE.out⟩
  · by_cases hm : mayU a b c = true
    · have HM : Hid (mayU a b c = true ∧ uL a b c = uL a b c ∧ uR a b c = 0) := Lib.hid ⟨hm, rfl, uR_yes hm⟩
      have HU : Hid ((uF (uL a b c) 0 : Int) = a ∧ (uF (uL a b c) 1 : Int) = b ∧ (uF (uL a b c) 2 : Int) = c ∧ uE (uL a b c) = 0) := Lib.hid ⟨(uBack hm).2.1, (uBack hm).2.2.1, (uBack hm).2.2.2, uE_yes (uBack hm).1⟩
      clear hm
      by_cases hv : uV l = true
      · have HV := Lib.hid (And.intro hv (uE_yes hv))
        have HW : Hid (uL (uF l 0) (uF l 1) (uF l 2) = l ∧ uR (uF l 0) (uF l 1) (uF l 2) = 0) := Lib.hid (uL_of hv HBL.out)
        clear hv
        obtain ⟨⟨t0, t1, t2⟩, _⟩ := three_cells HT.out
        go_enter Tryd.func4, Tryd.ntmps4
        go_wp2_with fail
        refine (uawake_any _ _ (Ext.refl _) (HL.out.ext HE.out)).mono ?_
        rintro r w1 ⟨rfl, hx⟩
        have HT := Lib.hid ((hx.block _ (Array.getElem?_eq_some_iff.1 HT.out).1).trans HT.out)
        have HE := Lib.hid (HE.out.trans hx)
        clear hx t0 t1 t2
        obtain ⟨⟨t0, t1, t2⟩, _⟩ := three_cells HT.out
        go_wp2_with fail
        refine (printU_any _ _ _ _ (HL.out.ext HE.out).a.o).mono ?_
        rw [HM.out.2.2]
        rintro r w2 ⟨A2, c2, rfl, hb2, _, hx⟩
        have HB2 := Lib.hid hb2
        have HT := Lib.hid ((hx.block _ (Array.getElem?_eq_some_iff.1 HT.out).1).trans HT.out)
        have HE := Lib.hid (HE.out.trans hx)
        clear hx hb2 t0 t1 t2
        obtain ⟨⟨t0, t1, t2⟩, _⟩ := three_cells HT.out
        go_wp2_with fail
        refine (mayU_any _ _ _ _).mono ?_
        rw [HM.out.1]
        rintro r w3 ⟨rfl, hx⟩
        have HB2 := Lib.hid (HB2.out.ext hx)
        have HT := Lib.hid ((hx.block _ (Array.getElem?_eq_some_iff.1 HT.out).1).trans HT.out)
        have HE := Lib.hid (HE.out.trans hx)
        clear hx t0 t1 t2
        go_wp2_with fail
        refine (parseU _ _ _ (uL a b c) _ (HL.out.ext HE.out).a.o HB2.out (by have := uL_len_le a b c; omega)).mono ?_
        rw [HU.out.1, HU.out.2.1, HU.out.2.2.1, HU.out.2.2.2]
        rintro r w4 ⟨rfl, hx⟩
        have HT := Lib.hid ((hx.block _ (Array.getElem?_eq_some_iff.1 HT.out).1).trans HT.out)
        have HE := Lib.hid (HE.out.trans hx)
        clear hx
        have hN := heap_alloc_new w4 (.cells #[.int .i64 a, .int .i64 b, .int .i64 c] 25)
        have HT := Lib.hid ((heap_alloc_old w4 (.cells #[.int .i64 a, .int .i64 b, .int .i64 c] 25) (Array.getElem?_eq_some_iff.1 HT.out).1).trans HT.out)
        have HN := Lib.hid hN
        have HE := Lib.hid (HE.out.alloc (.cells #[.int .i64 a, .int .i64 b, .int .i64 c] 25))
        clear hN
        obtain ⟨⟨t0, t1, t2⟩, _⟩ := three_cells HT.out
        obtain ⟨⟨n0, n1, n2⟩, _⟩ := three_cells HN.out
        have hne := fun a b c a' b' c' => meta_neq a b c a' b' c'
        go_wp2_with fail
        clear hne t0 t1 t2 n0 n1 n2
        refine (parseU _ _ _ l _ (HL.out.ext HE.out).a.o (HB.out.ext HE.out) (by omega)).mono ?_
        rw [HV.out.2]
        rintro r w5 ⟨rfl, hx⟩
        have HT := Lib.hid ((hx.block _ (Array.getElem?_eq_some_iff.1 HT.out).1).trans HT.out)
        have HN := Lib.hid ((hx.block _ (Array.getElem?_eq_some_iff.1 HN.out).1).trans HN.out)
        have HE := Lib.hid (HE.out.trans hx)
        clear hx
        have hQ := heap_alloc_new w5 (.cells #[.int .i64 (uF l 0), .int .i64 (uF l 1), .int .i64 (uF l 2)] 25)
        have HT := Lib.hid ((heap_alloc_old w5 (.cells #[.int .i64 (uF l 0), .int .i64 (uF l 1), .int .i64 (uF l 2)] 25) (Array.getElem?_eq_some_iff.1 HT.out).1).trans HT.out)
        have HN := Lib.hid ((heap_alloc_old w5 (.cells #[.int .i64 (uF l 0), .int .i64 (uF l 1), .int .i64 (uF l 2)] 25) (Array.getElem?_eq_some_iff.1 HN.out).1).trans HN.out)
        have HQ := Lib.hid hQ
        have HE := Lib.hid (HE.out.alloc (.cells #[.int .i64 (uF l 0), .int .i64 (uF l 1), .int .i64 (uF l 2)] 25))
        clear hQ
        obtain ⟨⟨q0, q1, q2⟩, _⟩ := three_cells HQ.out
        go_wp2_with fail
        refine (printU_any _ _ _ _ (HL.out.ext HE.out).a.o).mono ?_
        rw [HW.out.1, HW.out.2]
        rintro r w6 ⟨A6, c6, rfl, hb6, _, hx⟩
        have HB6 := Lib.hid hb6
        have HT := Lib.hid ((hx.block _ (Array.getElem?_eq_some_iff.1 HT.out).1).trans HT.out)
        have HN := Lib.hid ((hx.block _ (Array.getElem?_eq_some_iff.1 HN.out).1).trans HN.out)
        have HQ := Lib.hid ((hx.block _ (Array.getElem?_eq_some_iff.1 HQ.out).1).trans HQ.out)
        have HE := Lib.hid (HE.out.trans hx)
        clear hx hb6 q0 q1 q2
        go_wp2_with fail
        refine (same_by A6 A l l _ _ c6 cp _ HB6.out (HB.out.ext HE.out)).mono ?_
        rw [decide_eq_true (rfl : l = l)]
        rintro r w7 ⟨rfl, hx⟩
        have HE := Lib.hid (HE.out.trans hx)
        clear hx
        go_wp2_with fail
        go_ret
        exact ⟨rfl, HE.out⟩
      · have hv' : uV l = false := by simpa using hv
        have HV : Hid (uF l 0 = 0 ∧ uF l 1 = 0 ∧ uF l 2 = 0 ∧ uE l = 80) := Lib.hid ⟨uF_no hv' 0, uF_no hv' 1, uF_no hv' 2, uE_no hv'⟩
        clear hv hv'
        obtain ⟨⟨t0, t1, t2⟩, _⟩ := three_cells HT.out
        go_enter Tryd.func4, Tryd.ntmps4
        go_wp2_with fail
        refine (uawake_any _ _ (Ext.refl _) (HL.out.ext HE.out)).mono ?_
        rintro r w1 ⟨rfl, hx⟩
        have HT := Lib.hid ((hx.block _ (Array.getElem?_eq_some_iff.1 HT.out).1).trans HT.out)
        have HE := Lib.hid (HE.out.trans hx)
        clear hx t0 t1 t2
        obtain ⟨⟨t0, t1, t2⟩, _⟩ := three_cells HT.out
        go_wp2_with fail
        refine (printU_any _ _ _ _ (HL.out.ext HE.out).a.o).mono ?_
        rw [HM.out.2.2]
        rintro r w2 ⟨A2, c2, rfl, hb2, _, hx⟩
        have HB2 := Lib.hid hb2
        have HT := Lib.hid ((hx.block _ (Array.getElem?_eq_some_iff.1 HT.out).1).trans HT.out)
        have HE := Lib.hid (HE.out.trans hx)
        clear hx hb2 t0 t1 t2
        obtain ⟨⟨t0, t1, t2⟩, _⟩ := three_cells HT.out
        go_wp2_with fail
        refine (mayU_any _ _ _ _).mono ?_
        rw [HM.out.1]
        rintro r w3 ⟨rfl, hx⟩
        have HB2 := Lib.hid (HB2.out.ext hx)
        have HT := Lib.hid ((hx.block _ (Array.getElem?_eq_some_iff.1 HT.out).1).trans HT.out)
        have HE := Lib.hid (HE.out.trans hx)
        clear hx t0 t1 t2
        go_wp2_with fail
        refine (parseU _ _ _ (uL a b c) _ (HL.out.ext HE.out).a.o HB2.out (by have := uL_len_le a b c; omega)).mono ?_
        rw [HU.out.1, HU.out.2.1, HU.out.2.2.1, HU.out.2.2.2]
        rintro r w4 ⟨rfl, hx⟩
        have HT := Lib.hid ((hx.block _ (Array.getElem?_eq_some_iff.1 HT.out).1).trans HT.out)
        have HE := Lib.hid (HE.out.trans hx)
        clear hx
        have hN := heap_alloc_new w4 (.cells #[.int .i64 a, .int .i64 b, .int .i64 c] 25)
        have HT := Lib.hid ((heap_alloc_old w4 (.cells #[.int .i64 a, .int .i64 b, .int .i64 c] 25) (Array.getElem?_eq_some_iff.1 HT.out).1).trans HT.out)
        have HN := Lib.hid hN
        have HE := Lib.hid (HE.out.alloc (.cells #[.int .i64 a, .int .i64 b, .int .i64 c] 25))
        clear hN
        obtain ⟨⟨t0, t1, t2⟩, _⟩ := three_cells HT.out
        obtain ⟨⟨n0, n1, n2⟩, _⟩ := three_cells HN.out
        have hne := fun a b c a' b' c' => meta_neq a b c a' b' c'
        go_wp2_with fail
        clear hne t0 t1 t2 n0 n1 n2
        refine (parseU _ _ _ l _ (HL.out.ext HE.out).a.o (HB.out.ext HE.out) (by omega)).mono ?_
        rw [HV.out.1, HV.out.2.1, HV.out.2.2.1, HV.out.2.2.2]
        rintro r w5 ⟨rfl, hx⟩
        have HT := Lib.hid ((hx.block _ (Array.getElem?_eq_some_iff.1 HT.out).1).trans HT.out)
        have HN := Lib.hid ((hx.block _ (Array.getElem?_eq_some_iff.1 HN.out).1).trans HN.out)
        have HE := Lib.hid (HE.out.trans hx)
        clear hx
        have hQ := heap_alloc_new w5 (.cells #[.int .i64 0, .int .i64 0, .int .i64 0] 25)
        have HT := Lib.hid ((heap_alloc_old w5 (.cells #[.int .i64 0, .int .i64 0, .int .i64 0] 25) (Array.getElem?_eq_some_iff.1 HT.out).1).trans HT.out)
        have HN := Lib.hid ((heap_alloc_old w5 (.cells #[.int .i64 0, .int .i64 0, .int .i64 0] 25) (Array.getElem?_eq_some_iff.1 HN.out).1).trans HN.out)
        have HQ := Lib.hid hQ
        have HE := Lib.hid (HE.out.alloc (.cells #[.int .i64 0, .int .i64 0, .int .i64 0] 25))
        clear hQ
        obtain ⟨⟨q0, q1, q2⟩, _⟩ := three_cells HQ.out
        have heq := fun a b c a' b' c' => meta_eql a b c a' b' c'
        go_wp2_with fail
        go_ret
        exact ⟨rfl, HE.out⟩
    · have hm' : mayU a b c = false := by simpa using hm
      have HM : Hid (mayU a b c = false ∧ uL a b c = [] ∧ uR a b c = 2) := Lib.hid ⟨hm', uL_no hm', uR_no hm'⟩
      clear hm hm'
      by_cases hv : uV l = true
      · have HV := Lib.hid (And.intro hv (uE_yes hv))
        have HW : Hid (uL (uF l 0) (uF l 1) (uF l 2) = l ∧ uR (uF l 0) (uF l 1) (uF l 2) = 0) := Lib.hid (uL_of hv HBL.out)
        clear hv
        obtain ⟨⟨t0, t1, t2⟩, _⟩ := three_cells HT.out
        go_enter Tryd.func4, Tryd.ntmps4
        go_wp2_with fail
        refine (uawake_any _ _ (Ext.refl _) (HL.out.ext HE.out)).mono ?_
        rintro r w1 ⟨rfl, hx⟩
        have HT := Lib.hid ((hx.block _ (Array.getElem?_eq_some_iff.1 HT.out).1).trans HT.out)
        have HE := Lib.hid (HE.out.trans hx)
        clear hx t0 t1 t2
        obtain ⟨⟨t0, t1, t2⟩, _⟩ := three_cells HT.out
        go_wp2_with fail
        refine (printU_any _ _ _ _ (HL.out.ext HE.out).a.o).mono ?_
        rw [HM.out.2.1, HM.out.2.2]
        rintro r w2 ⟨A2, c2, rfl, hb2, _, hx⟩
        have HB2 := Lib.hid hb2
        have HT := Lib.hid ((hx.block _ (Array.getElem?_eq_some_iff.1 HT.out).1).trans HT.out)
        have HE := Lib.hid (HE.out.trans hx)
        clear hx hb2 t0 t1 t2
        obtain ⟨⟨t0, t1, t2⟩, _⟩ := three_cells HT.out
        go_wp2_with fail
        refine (mayU_any _ _ _ _).mono ?_
        rw [HM.out.1]
        rintro r w3 ⟨rfl, hx⟩
        have HB2 := Lib.hid (HB2.out.ext hx)
        have HT := Lib.hid ((hx.block _ (Array.getElem?_eq_some_iff.1 HT.out).1).trans HT.out)
        have HE := Lib.hid (HE.out.trans hx)
        clear hx t0 t1 t2
        go_wp2_with fail
        refine (parseU _ _ _ l _ (HL.out.ext HE.out).a.o (HB.out.ext HE.out) (by omega)).mono ?_
        rw [HV.out.2]
        rintro r w5 ⟨rfl, hx⟩
        have HT := Lib.hid ((hx.block _ (Array.getElem?_eq_some_iff.1 HT.out).1).trans HT.out)
        have HE := Lib.hid (HE.out.trans hx)
        clear hx
        have hQ := heap_alloc_new w5 (.cells #[.int .i64 (uF l 0), .int .i64 (uF l 1), .int .i64 (uF l 2)] 25)
        have HT := Lib.hid ((heap_alloc_old w5 (.cells #[.int .i64 (uF l 0), .int .i64 (uF l 1), .int .i64 (uF l 2)] 25) (Array.getElem?_eq_some_iff.1 HT.out).1).trans HT.out)
        have HQ := Lib.hid hQ
        have HE := Lib.hid (HE.out.alloc (.cells #[.int .i64 (uF l 0), .int .i64 (uF l 1), .int .i64 (uF l 2)] 25))
        clear hQ
        obtain ⟨⟨q0, q1, q2⟩, _⟩ := three_cells HQ.out
        go_wp2_with fail
        refine (printU_any _ _ _ _ (HL.out.ext HE.out).a.o).mono ?_
        rw [HW.out.1, HW.out.2]
        rintro r w6 ⟨A6, c6, rfl, hb6, _, hx⟩
        have HB6 := Lib.hid hb6
        have HT := Lib.hid ((hx.block _ (Array.getElem?_eq_some_iff.1 HT.out).1).trans HT.out)
        have HQ := Lib.hid ((hx.block _ (Array.getElem?_eq_some_iff.1 HQ.out).1).trans HQ.out)
        have HE := Lib.hid (HE.out.trans hx)
        clear hx hb6 q0 q1 q2
        go_wp2_with fail
        refine (same_by A6 A l l _ _ c6 cp _ HB6.out (HB.out.ext HE.out)).mono ?_
        rw [decide_eq_true (rfl : l = l)]
        rintro r w7 ⟨rfl, hx⟩
        have HE := Lib.hid (HE.out.trans hx)
        clear hx
        go_wp2_with fail
        go_ret
        exact ⟨rfl, HE.out⟩
      · have hv' : uV l = false := by simpa using hv
        have HV : Hid (uF l 0 = 0 ∧ uF l 1 = 0 ∧ uF l 2 = 0 ∧ uE l = 80) := Lib.hid ⟨uF_no hv' 0, uF_no hv' 1, uF_no hv' 2, uE_no hv'⟩
        clear hv hv'
        obtain ⟨⟨t0, t1, t2⟩, _⟩ := three_cells HT.out
        go_enter Tryd.func4, Tryd.ntmps4
        go_wp2_with fail
        refine (uawake_any _ _ (Ext.refl _) (HL.out.ext HE.out)).mono ?_
        rintro r w1 ⟨rfl, hx⟩
        have HT := Lib.hid ((hx.block _ (Array.getElem?_eq_some_iff.1 HT.out).1).trans HT.out)
        have HE := Lib.hid (HE.out.trans hx)
        clear hx t0 t1 t2
        obtain ⟨⟨t0, t1, t2⟩, _⟩ := three_cells HT.out
        go_wp2_with fail
        refine (printU_any _ _ _ _ (HL.out.ext HE.out).a.o).mono ?_
        rw [HM.out.2.1, HM.out.2.2]
        rintro r w2 ⟨A2, c2, rfl, hb2, _, hx⟩
        have HB2 := Lib.hid hb2
        have HT := Lib.hid ((hx.block _ (Array.getElem?_eq_some_iff.1 HT.out).1).trans HT.out)
        have HE := Lib.hid (HE.out.trans hx)
        clear hx hb2 t0 t1 t2
        obtain ⟨⟨t0, t1, t2⟩, _⟩ := three_cells HT.out
        go_wp2_with fail
        refine (mayU_any _ _ _ _).mono ?_
        rw [HM.out.1]
        rintro r w3 ⟨rfl, hx⟩
        have HB2 := Lib.hid (HB2.out.ext hx)
        have HT := Lib.hid ((hx.block _ (Array.getElem?_eq_some_iff.1 HT.out).1).trans HT.out)
        have HE := Lib.hid (HE.out.trans hx)
        clear hx t0 t1 t2
        go_wp2_with fail
        refine (parseU _ _ _ l _ (HL.out.ext HE.out).a.o (HB.out.ext HE.out) (by omega)).mono ?_
        rw [HV.out.1, HV.out.2.1, HV.out.2.2.1, HV.out.2.2.2]
        rintro r w5 ⟨rfl, hx⟩
        have HT := Lib.hid ((hx.block _ (Array.getElem?_eq_some_iff.1 HT.out).1).trans HT.out)
        have HE := Lib.hid (HE.out.trans hx)
        clear hx
        have hQ := heap_alloc_new w5 (.cells #[.int .i64 0, .int .i64 0, .int .i64 0] 25)
        have HT := Lib.hid ((heap_alloc_old w5 (.cells #[.int .i64 0, .int .i64 0, .int .i64 0] 25) (Array.getElem?_eq_some_iff.1 HT.out).1).trans HT.out)
        have HQ := Lib.hid hQ
        have HE := Lib.hid (HE.out.alloc (.cells #[.int .i64 0, .int .i64 0, .int .i64 0] 25))
        clear hQ
        obtain ⟨⟨q0, q1, q2⟩, _⟩ := three_cells HQ.out
        have heq := fun a b c a' b' c' => meta_eql a b c a' b' c'
        go_wp2_with fail
        go_ret
        exact ⟨rfl, HE.out⟩
end Go.Proofs.YtlikhmhomkiadaaDoor
