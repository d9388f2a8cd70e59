/-
  SlotWhere: the next put is never written over the frame by which the slot is intact.
-/
import Derived.Test.YtejejadbemkifaaLGreatC
import Derived.Test.YtejejadbemkifaaLAwake
import Derived.Test.YtejejadbemkifaaLAt
import Derived.Test.YtejejadbemkifaaLEq
import Derived.Test.YtejejadbemkifaaLTy
import Derived.Deep.DeepCutAuto
namespace Go.Proofs.Ytejejadbemkifaa
open Go Go.RowKit

set_option maxRecDepth 100000 in
set_option maxHeartbeats 1600000 in
theorem whereN (p : Rec) (f0 f1 : Cop) (i : Int) (w : World) (hgr : grB p f0 f1 = false) (hk : whereL p f0 f1 i = -1) :
    Calls Try.prog 4 #[.agg #[.int .u8 (p.st : Int), .int .i64 p.ix, .int .i64 p.bx, .int .i64 p.yb, .int .i64 p.wh], .agg #[.int .u8 (f0.st : Int), .int .i64 f0.ix, .int .i64 f0.bx, .int .i64 f0.yb, .int .u8 (f0.e.k : Int), .int .i64 f0.e.cl, .int .i64 f0.e.sq, .int .u8 (f0.e.ok : Int), .string f0.e.key, .string f0.e.old, .string f0.e.val, .int .u8 (f1.st : Int), .int .i64 f1.ix, .int .i64 f1.bx, .int .i64 f1.yb, .int .u8 (f1.e.k : Int), .int .i64 f1.e.cl, .int .i64 f1.e.sq, .int .u8 (f1.e.ok : Int), .string f1.e.key, .string f1.e.old, .string f1.e.val], .int .i64 i] w fun e w' => e = .returned (.bool true) ∧ Ext w w' := by
  obtain ⟨hp, h0, h1, hw⟩ := grB_no hgr
  have HG := Lib.hid (great_of p f0 f1)
  rw [hgr] at HG
  have HA := Lib.hid awake_of
  have HW := Lib.hid (what_atN p f0 f1 i hp h0 h1 hw hk)
  have HN := Lib.hid (next_of p f0 f1 i · hp h0 h1 hw)
  have HP := Lib.hid (next_pre w p f0 f1)
  obtain ⟨n, hn, hn01⟩ : ∃ n, nextL p f0 f1 i = n ∧ (n = 0 ∨ n = 1) := ⟨_, rfl, (nextL_two p f0 f1 i).1⟩
  rw [hn] at HN
  have hcl : (((classL p f0 f1 i : Nat) : Int) == 3) = false := by
    rw [beq_eq_false_iff_ne]
    intro hh
    have := classL_three (p := p) (f0 := f0) (f1 := f1) (i := i) |>.1 (by omega)
    omega
  have hst : (stateL p f0 f1 i = 3) ∨ ((((stateL p f0 f1 i : Nat) : Int) == 3) = false ∧ repX p f0 f1 i = 0 ∧ repY p f0 f1 i = 0) := by
    have n0 : ¬ (0 : Int) ≤ -1 := by omega
    unfold stateL repX repY
    simp only [hk, n0, if_false]
    by_cases ho : p.of i
    · exact .inl (by simp [ho])
    · by_cases hb : beyL p f0 f1 i ∨ (p.st = 2 ∧ badL f0 f1)
      · exact .inr (by simp [ho, hb])
      · exact .inr ⟨by simp only [ho, hb, if_false]; rfl, by simp [ho], by simp [ho]⟩
  clear hgr hp h0 h1 hw hk hn
  have hqe := lent_eql_self 0 0 0 0 ⟨#[]⟩ ⟨#[]⟩ ⟨#[]⟩
  have hqb := lbal_eql_self 0 0
  have hge : Try.prog.eqGuardType Try.prog.depth 31 = false := by kernel_rfl
  have hgb : Try.prog.eqGuardType Try.prog.depth 25 = false := by kernel_rfl
  go_enter Try.func4, Try.ntmps4
  go_upto_region 1 with (fail)
  generalize ((w.alloc (.cells #[.int .u8 (p.st : Int), .int .i64 p.ix, .int .i64 p.bx, .int .i64 p.yb, .int .i64 p.wh] 27)).alloc (.cells #[.int .u8 (f0.st : Int), .int .i64 f0.ix, .int .i64 f0.bx, .int .i64 f0.yb, .int .u8 (f0.e.k : Int), .int .i64 f0.e.cl, .int .i64 f0.e.sq, .int .u8 (f0.e.ok : Int), .string f0.e.key, .string f0.e.old, .string f0.e.val, .int .u8 (f1.st : Int), .int .i64 f1.ix, .int .i64 f1.bx, .int .i64 f1.yb, .int .u8 (f1.e.k : Int), .int .i64 f1.e.cl, .int .i64 f1.e.sq, .int .u8 (f1.e.ok : Int), .string f1.e.key, .string f1.e.old, .string f1.e.val] 34)) = W at *
  generalize w.heap.size + 1 = g1 at *
  generalize hg : w.heap.size = g at *
  have HGG := Lib.hid hg
  clear hg
  go_wp2_with fail
  refine (HA.out W).mono ?_
  rintro e w1 ⟨rfl, hx⟩
  have HP := Lib.hid (⟨HP.out.1.ext hx, HP.out.2.1.ext hx, HP.out.2.2.trans hx⟩ : RecAt w1 g p ∧ Two w1 g1 f0 f1 ∧ Ext w w1)
  clear hx HA
  have q0 := cell_of_row w1 g 0 _ _ _ (HP.out.1)
  have q1 := cell_of_row w1 g 1 _ _ _ (HP.out.1)
  have q2 := cell_of_row w1 g 2 _ _ _ (HP.out.1)
  have q3 := cell_of_row w1 g 3 _ _ _ (HP.out.1)
  have q4 := cell_of_row w1 g 4 _ _ _ (HP.out.1)
  obtain ⟨N, hN, hsz⟩ := size_two
  have hld := load_two hN HP.out.2.1
  have HNN := Lib.hid hN
  clear hN
  go_wp2_with fail
  refine (HG.out w1).mono ?_
  rintro e w2 ⟨rfl, hx⟩
  have HP := Lib.hid (⟨HP.out.1.ext hx, HP.out.2.1.ext hx, HP.out.2.2.trans hx⟩ : RecAt w2 g p ∧ Two w2 g1 f0 f1 ∧ Ext w w2)
  clear hx hsz hld HNN q0 q1 q2 q3 q4 HG
  have q0 := cell_of_row w2 g 0 _ _ _ (HP.out.1)
  have q1 := cell_of_row w2 g 1 _ _ _ (HP.out.1)
  have q2 := cell_of_row w2 g 2 _ _ _ (HP.out.1)
  have q3 := cell_of_row w2 g 3 _ _ _ (HP.out.1)
  have q4 := cell_of_row w2 g 4 _ _ _ (HP.out.1)
  obtain ⟨N, hN, hsz⟩ := size_two
  have hld := load_two hN HP.out.2.1
  have HNN := Lib.hid hN
  clear hN
  go_wp2_with fail
  refine (HW.out w2).mono ?_
  rintro e w3 ⟨rfl, hx⟩
  have HP := Lib.hid (⟨HP.out.1.ext hx, HP.out.2.1.ext hx, HP.out.2.2.trans hx⟩ : RecAt w3 g p ∧ Two w3 g1 f0 f1 ∧ Ext w w3)
  clear hx hsz hld HNN q0 q1 q2 q3 q4 HW
  have hx := (Ext.refl w3).alloc (.cells #[.int .i64 i, .int .u8 (stateL p f0 f1 i : Nat), .int .i64 (repX p f0 f1 i), .int .i64 (repY p f0 f1 i), .int .u8 0, .int .i64 0, .int .i64 0, .int .u8 0, .string ⟨#[]⟩, .string ⟨#[]⟩, .string ⟨#[]⟩] 37)
  have HP := Lib.hid (⟨HP.out.1.ext hx, HP.out.2.1.ext hx, HP.out.2.2.trans hx⟩ : RecAt (w3.alloc (.cells #[.int .i64 i, .int .u8 (stateL p f0 f1 i : Nat), .int .i64 (repX p f0 f1 i), .int .i64 (repY p f0 f1 i), .int .u8 0, .int .i64 0, .int .i64 0, .int .u8 0, .string ⟨#[]⟩, .string ⟨#[]⟩, .string ⟨#[]⟩] 37)) g p ∧ Two (w3.alloc (.cells #[.int .i64 i, .int .u8 (stateL p f0 f1 i : Nat), .int .i64 (repX p f0 f1 i), .int .i64 (repY p f0 f1 i), .int .u8 0, .int .i64 0, .int .i64 0, .int .u8 0, .string ⟨#[]⟩, .string ⟨#[]⟩, .string ⟨#[]⟩] 37)) g1 f0 f1 ∧ Ext w (w3.alloc (.cells #[.int .i64 i, .int .u8 (stateL p f0 f1 i : Nat), .int .i64 (repX p f0 f1 i), .int .i64 (repY p f0 f1 i), .int .u8 0, .int .i64 0, .int .i64 0, .int .u8 0, .string ⟨#[]⟩, .string ⟨#[]⟩, .string ⟨#[]⟩] 37)))
  have HRP := Lib.hid (heap_alloc_new w3 (.cells #[.int .i64 i, .int .u8 (stateL p f0 f1 i : Nat), .int .i64 (repX p f0 f1 i), .int .i64 (repY p f0 f1 i), .int .u8 0, .int .i64 0, .int .i64 0, .int .u8 0, .string ⟨#[]⟩, .string ⟨#[]⟩, .string ⟨#[]⟩] 37))
  clear hx
  go_upto_region 6 with (fail)
  generalize (w3.alloc (.cells #[.int .i64 i, .int .u8 (stateL p f0 f1 i : Nat), .int .i64 (repX p f0 f1 i), .int .i64 (repY p f0 f1 i), .int .u8 0, .int .i64 0, .int .i64 0, .int .u8 0, .string ⟨#[]⟩, .string ⟨#[]⟩, .string ⟨#[]⟩] 37)) = w4 at *
  generalize w3.heap.size = gr at *
  have q0 := cell_of_row w4 g 0 _ _ _ (HP.out.1)
  have q1 := cell_of_row w4 g 1 _ _ _ (HP.out.1)
  have q2 := cell_of_row w4 g 2 _ _ _ (HP.out.1)
  have q3 := cell_of_row w4 g 3 _ _ _ (HP.out.1)
  have q4 := cell_of_row w4 g 4 _ _ _ (HP.out.1)
  obtain ⟨N, hN, hsz⟩ := size_two
  have hld := load_two hN HP.out.2.1
  have HNN := Lib.hid hN
  clear hN
  go_wp2_with fail
  refine (HN.out w4).mono ?_
  rintro e w5 ⟨rfl, hx⟩
  have HP := Lib.hid (⟨HP.out.1.ext hx, HP.out.2.1.ext hx, HP.out.2.2.trans hx⟩ : RecAt w5 g p ∧ Two w5 g1 f0 f1 ∧ Ext w w5)
  have HRP := Lib.hid (keep_row hx HRP.out)
  clear hx hsz hld HNN q0 q1 q2 q3 q4 HN
  have z0 := cell_of_row w5 gr 0 _ _ _ (HRP.out)
  have z1 := cell_of_row w5 gr 1 _ _ _ (HRP.out)
  have z2 := cell_of_row w5 gr 2 _ _ _ (HRP.out)
  have z3 := cell_of_row w5 gr 3 _ _ _ (HRP.out)
  have z4 := cell_of_row w5 gr 4 _ _ _ (HRP.out)
  have z5 := cell_of_row w5 gr 5 _ _ _ (HRP.out)
  have z6 := cell_of_row w5 gr 6 _ _ _ (HRP.out)
  have z7 := cell_of_row w5 gr 7 _ _ _ (HRP.out)
  have z8 := cell_of_row w5 gr 8 _ _ _ (HRP.out)
  have z9 := cell_of_row w5 gr 9 _ _ _ (HRP.out)
  have z10 := cell_of_row w5 gr 10 _ _ _ (HRP.out)
  rcases hn01 with rfl | rfl <;> rcases hst with hst | ⟨hst, hx0, hy0⟩
  · have hs3 : (((stateL p f0 f1 i : Nat) : Int) == 3) = true := by rw [hst]; rfl
    clear hst
    go_wp2_with fail
    go_ret
    exact ⟨rfl, HP.out.2.2⟩
  · rw [hx0] at z2
    rw [hy0] at z3
    clear hx0 hy0
    go_wp2_with fail
    go_ret
    exact ⟨rfl, HP.out.2.2⟩
  · have hs3 : (((stateL p f0 f1 i : Nat) : Int) == 3) = true := by rw [hst]; rfl
    clear hst
    go_wp2_with fail
    go_ret
    exact ⟨rfl, HP.out.2.2⟩
  · rw [hx0] at z2
    rw [hy0] at z3
    clear hx0 hy0
    go_wp2_with fail
    go_ret
    exact ⟨rfl, HP.out.2.2⟩

set_option maxRecDepth 100000 in
set_option maxHeartbeats 1600000 in
theorem where0 (p : Rec) (f0 f1 : Cop) (i : Int) (w : World) (hgr : grB p f0 f1 = false) (hk : whereL p f0 f1 i = 0) :
    Calls Try.prog 4 #[.agg #[.int .u8 (p.st : Int), .int .i64 p.ix, .int .i64 p.bx, .int .i64 p.yb, .int .i64 p.wh], .agg #[.int .u8 (f0.st : Int), .int .i64 f0.ix, .int .i64 f0.bx, .int .i64 f0.yb, .int .u8 (f0.e.k : Int), .int .i64 f0.e.cl, .int .i64 f0.e.sq, .int .u8 (f0.e.ok : Int), .string f0.e.key, .string f0.e.old, .string f0.e.val, .int .u8 (f1.st : Int), .int .i64 f1.ix, .int .i64 f1.bx, .int .i64 f1.yb, .int .u8 (f1.e.k : Int), .int .i64 f1.e.cl, .int .i64 f1.e.sq, .int .u8 (f1.e.ok : Int), .string f1.e.key, .string f1.e.old, .string f1.e.val], .int .i64 i] w fun e w' => e = .returned (.bool true) ∧ Ext w w' := by
  obtain ⟨hp, h0, h1, hw⟩ := grB_no hgr
  have HG := Lib.hid (great_of p f0 f1)
  rw [hgr] at HG
  have HA := Lib.hid awake_of
  have HW := Lib.hid (what_at0 p f0 f1 i hp h0 h1 hw hk)
  have HN := Lib.hid (next_of p f0 f1 i · hp h0 h1 hw)
  have HP := Lib.hid (next_pre w p f0 f1)
  have hof : f0.st = 1 ∧ f0.ix = i := by
    rcases whereL_of (p := p) (f0 := f0) (f1 := f1) (i := i) with h | ⟨h, x⟩ | ⟨h, x⟩
    · omega
    · exact x
    · omega
  have hs1 : ((f0.st : Int) == 1) = true := by simp [hof.1]
  have hix : (f0.ix == i) = true := by simp [hof.2]
  rw [show nextL p f0 f1 i = 1 from by unfold nextL; rw [hk]; rfl] at HN
  clear hgr hp h0 h1 hw hk hof
  have hqe := lent_eql_self f0.e.k f0.e.cl f0.e.sq f0.e.ok f0.e.key f0.e.old f0.e.val
  have hqb := lbal_eql_self f0.bx f0.yb
  have hge : Try.prog.eqGuardType Try.prog.depth 31 = false := by kernel_rfl
  have hgb : Try.prog.eqGuardType Try.prog.depth 25 = false := by kernel_rfl
  go_enter Try.func4, Try.ntmps4
  go_upto_region 1 with (fail)
  generalize ((w.alloc (.cells #[.int .u8 (p.st : Int), .int .i64 p.ix, .int .i64 p.bx, .int .i64 p.yb, .int .i64 p.wh] 27)).alloc (.cells #[.int .u8 (f0.st : Int), .int .i64 f0.ix, .int .i64 f0.bx, .int .i64 f0.yb, .int .u8 (f0.e.k : Int), .int .i64 f0.e.cl, .int .i64 f0.e.sq, .int .u8 (f0.e.ok : Int), .string f0.e.key, .string f0.e.old, .string f0.e.val, .int .u8 (f1.st : Int), .int .i64 f1.ix, .int .i64 f1.bx, .int .i64 f1.yb, .int .u8 (f1.e.k : Int), .int .i64 f1.e.cl, .int .i64 f1.e.sq, .int .u8 (f1.e.ok : Int), .string f1.e.key, .string f1.e.old, .string f1.e.val] 34)) = W at *
  generalize w.heap.size + 1 = g1 at *
  generalize hg : w.heap.size = g at *
  have HGG := Lib.hid hg
  clear hg
  go_wp2_with fail
  refine (HA.out W).mono ?_
  rintro e w1 ⟨rfl, hx⟩
  have HP := Lib.hid (⟨HP.out.1.ext hx, HP.out.2.1.ext hx, HP.out.2.2.trans hx⟩ : RecAt w1 g p ∧ Two w1 g1 f0 f1 ∧ Ext w w1)
  clear hx HA
  have q0 := cell_of_row w1 g 0 _ _ _ (HP.out.1)
  have q1 := cell_of_row w1 g 1 _ _ _ (HP.out.1)
  have q2 := cell_of_row w1 g 2 _ _ _ (HP.out.1)
  have q3 := cell_of_row w1 g 3 _ _ _ (HP.out.1)
  have q4 := cell_of_row w1 g 4 _ _ _ (HP.out.1)
  obtain ⟨N, hN, hsz⟩ := size_two
  have hld := load_two hN HP.out.2.1
  have HNN := Lib.hid hN
  clear hN
  go_wp2_with fail
  refine (HG.out w1).mono ?_
  rintro e w2 ⟨rfl, hx⟩
  have HP := Lib.hid (⟨HP.out.1.ext hx, HP.out.2.1.ext hx, HP.out.2.2.trans hx⟩ : RecAt w2 g p ∧ Two w2 g1 f0 f1 ∧ Ext w w2)
  clear hx hsz hld HNN q0 q1 q2 q3 q4 HG
  have q0 := cell_of_row w2 g 0 _ _ _ (HP.out.1)
  have q1 := cell_of_row w2 g 1 _ _ _ (HP.out.1)
  have q2 := cell_of_row w2 g 2 _ _ _ (HP.out.1)
  have q3 := cell_of_row w2 g 3 _ _ _ (HP.out.1)
  have q4 := cell_of_row w2 g 4 _ _ _ (HP.out.1)
  obtain ⟨N, hN, hsz⟩ := size_two
  have hld := load_two hN HP.out.2.1
  have HNN := Lib.hid hN
  clear hN
  go_wp2_with fail
  refine (HW.out w2).mono ?_
  rintro e w3 ⟨rfl, hx⟩
  have HP := Lib.hid (⟨HP.out.1.ext hx, HP.out.2.1.ext hx, HP.out.2.2.trans hx⟩ : RecAt w3 g p ∧ Two w3 g1 f0 f1 ∧ Ext w w3)
  clear hx hsz hld HNN q0 q1 q2 q3 q4 HW
  have hx := (Ext.refl w3).alloc (.cells #[.int .i64 i, .int .u8 2, .int .i64 f0.bx, .int .i64 f0.yb, .int .u8 (f0.e.k : Int), .int .i64 f0.e.cl, .int .i64 f0.e.sq, .int .u8 (f0.e.ok : Int), .string f0.e.key, .string f0.e.old, .string f0.e.val] 37)
  have HP := Lib.hid (⟨HP.out.1.ext hx, HP.out.2.1.ext hx, HP.out.2.2.trans hx⟩ : RecAt (w3.alloc (.cells #[.int .i64 i, .int .u8 2, .int .i64 f0.bx, .int .i64 f0.yb, .int .u8 (f0.e.k : Int), .int .i64 f0.e.cl, .int .i64 f0.e.sq, .int .u8 (f0.e.ok : Int), .string f0.e.key, .string f0.e.old, .string f0.e.val] 37)) g p ∧ Two (w3.alloc (.cells #[.int .i64 i, .int .u8 2, .int .i64 f0.bx, .int .i64 f0.yb, .int .u8 (f0.e.k : Int), .int .i64 f0.e.cl, .int .i64 f0.e.sq, .int .u8 (f0.e.ok : Int), .string f0.e.key, .string f0.e.old, .string f0.e.val] 37)) g1 f0 f1 ∧ Ext w (w3.alloc (.cells #[.int .i64 i, .int .u8 2, .int .i64 f0.bx, .int .i64 f0.yb, .int .u8 (f0.e.k : Int), .int .i64 f0.e.cl, .int .i64 f0.e.sq, .int .u8 (f0.e.ok : Int), .string f0.e.key, .string f0.e.old, .string f0.e.val] 37)))
  have HRP := Lib.hid (heap_alloc_new w3 (.cells #[.int .i64 i, .int .u8 2, .int .i64 f0.bx, .int .i64 f0.yb, .int .u8 (f0.e.k : Int), .int .i64 f0.e.cl, .int .i64 f0.e.sq, .int .u8 (f0.e.ok : Int), .string f0.e.key, .string f0.e.old, .string f0.e.val] 37))
  clear hx
  go_upto_region 6 with (fail)
  generalize (w3.alloc (.cells #[.int .i64 i, .int .u8 2, .int .i64 f0.bx, .int .i64 f0.yb, .int .u8 (f0.e.k : Int), .int .i64 f0.e.cl, .int .i64 f0.e.sq, .int .u8 (f0.e.ok : Int), .string f0.e.key, .string f0.e.old, .string f0.e.val] 37)) = w4 at *
  generalize w3.heap.size = gr at *
  have q0 := cell_of_row w4 g 0 _ _ _ (HP.out.1)
  have q1 := cell_of_row w4 g 1 _ _ _ (HP.out.1)
  have q2 := cell_of_row w4 g 2 _ _ _ (HP.out.1)
  have q3 := cell_of_row w4 g 3 _ _ _ (HP.out.1)
  have q4 := cell_of_row w4 g 4 _ _ _ (HP.out.1)
  obtain ⟨N, hN, hsz⟩ := size_two
  have hld := load_two hN HP.out.2.1
  have HNN := Lib.hid hN
  clear hN
  go_wp2_with fail
  refine (HN.out w4).mono ?_
  rintro e w5 ⟨rfl, hx⟩
  have HP := Lib.hid (⟨HP.out.1.ext hx, HP.out.2.1.ext hx, HP.out.2.2.trans hx⟩ : RecAt w5 g p ∧ Two w5 g1 f0 f1 ∧ Ext w w5)
  have HRP := Lib.hid (keep_row hx HRP.out)
  clear hx hsz hld HNN q0 q1 q2 q3 q4 HN
  have z0 := cell_of_row w5 gr 0 _ _ _ (HRP.out)
  have z1 := cell_of_row w5 gr 1 _ _ _ (HRP.out)
  have z2 := cell_of_row w5 gr 2 _ _ _ (HRP.out)
  have z3 := cell_of_row w5 gr 3 _ _ _ (HRP.out)
  have z4 := cell_of_row w5 gr 4 _ _ _ (HRP.out)
  have z5 := cell_of_row w5 gr 5 _ _ _ (HRP.out)
  have z6 := cell_of_row w5 gr 6 _ _ _ (HRP.out)
  have z7 := cell_of_row w5 gr 7 _ _ _ (HRP.out)
  have z8 := cell_of_row w5 gr 8 _ _ _ (HRP.out)
  have z9 := cell_of_row w5 gr 9 _ _ _ (HRP.out)
  have z10 := cell_of_row w5 gr 10 _ _ _ (HRP.out)
  go_upto_region 10 with (fail)
  clear z0 z1 z2 z3 z4 z5 z6 z7 z8 z9 z10
  refine wp_region_held_drew (S := fun w' => w'.cell? ⟨g1, 0, none⟩ = some (.int .u8 (f0.st : Int)) ∧ w'.cell? ⟨g1, 1, none⟩ = some (.int .i64 f0.ix) ∧ w'.cell? ⟨g1, 2, none⟩ = some (.int .i64 f0.bx) ∧ w'.cell? ⟨g1, 3, none⟩ = some (.int .i64 f0.yb) ∧ w'.cell? ⟨g1, 4, none⟩ = some (.int .u8 (f0.e.k : Int)) ∧ w'.cell? ⟨g1, 5, none⟩ = some (.int .i64 f0.e.cl) ∧ w'.cell? ⟨g1, 6, none⟩ = some (.int .i64 f0.e.sq) ∧ w'.cell? ⟨g1, 7, none⟩ = some (.int .u8 (f0.e.ok : Int)) ∧ w'.cell? ⟨g1, 8, none⟩ = some (.string f0.e.key) ∧ w'.cell? ⟨g1, 9, none⟩ = some (.string f0.e.old) ∧ w'.cell? ⟨g1, 10, none⟩ = some (.string f0.e.val) ∧ w'.cell? ⟨gr, 0, none⟩ = some (.int .i64 i) ∧ w'.cell? ⟨gr, 1, none⟩ = some (.int .u8 2) ∧ w'.cell? ⟨gr, 2, none⟩ = some (.int .i64 f0.bx) ∧ w'.cell? ⟨gr, 3, none⟩ = some (.int .i64 f0.yb) ∧ w'.cell? ⟨gr, 4, none⟩ = some (.int .u8 (f0.e.k : Int)) ∧ w'.cell? ⟨gr, 5, none⟩ = some (.int .i64 f0.e.cl) ∧ w'.cell? ⟨gr, 6, none⟩ = some (.int .i64 f0.e.sq) ∧ w'.cell? ⟨gr, 7, none⟩ = some (.int .u8 (f0.e.ok : Int)) ∧ w'.cell? ⟨gr, 8, none⟩ = some (.string f0.e.key) ∧ w'.cell? ⟨gr, 9, none⟩ = some (.string f0.e.old) ∧ w'.cell? ⟨gr, 10, none⟩ = some (.string f0.e.val)) (by kernel_rfl) (⟨cell_of_row _ g1 0 _ _ _ (keep_row (Ext.refl w5).drew HP.out.2.1), cell_of_row _ g1 1 _ _ _ (keep_row (Ext.refl w5).drew HP.out.2.1), cell_of_row _ g1 2 _ _ _ (keep_row (Ext.refl w5).drew HP.out.2.1), cell_of_row _ g1 3 _ _ _ (keep_row (Ext.refl w5).drew HP.out.2.1), cell_of_row _ g1 4 _ _ _ (keep_row (Ext.refl w5).drew HP.out.2.1), cell_of_row _ g1 5 _ _ _ (keep_row (Ext.refl w5).drew HP.out.2.1), cell_of_row _ g1 6 _ _ _ (keep_row (Ext.refl w5).drew HP.out.2.1), cell_of_row _ g1 7 _ _ _ (keep_row (Ext.refl w5).drew HP.out.2.1), cell_of_row _ g1 8 _ _ _ (keep_row (Ext.refl w5).drew HP.out.2.1), cell_of_row _ g1 9 _ _ _ (keep_row (Ext.refl w5).drew HP.out.2.1), cell_of_row _ g1 10 _ _ _ (keep_row (Ext.refl w5).drew HP.out.2.1), cell_of_row _ gr 0 _ _ _ (keep_row (Ext.refl w5).drew HRP.out), cell_of_row _ gr 1 _ _ _ (keep_row (Ext.refl w5).drew HRP.out), cell_of_row _ gr 2 _ _ _ (keep_row (Ext.refl w5).drew HRP.out), cell_of_row _ gr 3 _ _ _ (keep_row (Ext.refl w5).drew HRP.out), cell_of_row _ gr 4 _ _ _ (keep_row (Ext.refl w5).drew HRP.out), cell_of_row _ gr 5 _ _ _ (keep_row (Ext.refl w5).drew HRP.out), cell_of_row _ gr 6 _ _ _ (keep_row (Ext.refl w5).drew HRP.out), cell_of_row _ gr 7 _ _ _ (keep_row (Ext.refl w5).drew HRP.out), cell_of_row _ gr 8 _ _ _ (keep_row (Ext.refl w5).drew HRP.out), cell_of_row _ gr 9 _ _ _ (keep_row (Ext.refl w5).drew HRP.out), cell_of_row _ gr 10 _ _ _ (keep_row (Ext.refl w5).drew HRP.out)⟩) (fun hHeld => ?_)
  refine wpAnyH_take (i := 0) (oi := { dst := some 42, op := Go.Op.move (Go.Operand.tmp 9), type := 3, pos := "outright.go:163", after := #[], guard := none }) (v := ?_) rfl (by kernel_rfl) (by kernel_rfl) (by kernel_rfl) (fun _ _ _ h => h) (Or.inl ⟨by rfl, ?_⟩) (by assumption) ?_
  rotate_left
  · intro w9 hSw
    try dsimp only at hSw
    go_simp
    try with_reducible rfl
  try simp only [Act.put, List.setIfInBounds_toArray, List.set_cons_zero, List.set_cons_succ]
  refine wpAnyH_take (i := 1) (oi := { dst := some 43, op := Go.Op.binOp Go.BinOp.geq 3 (Go.Operand.tmp 42) (Go.Operand.const (Go.Value.int Go.IntKind.i64 0)) 3, type := 4, pos := "outright.go:163", after := #[{ on := 0, ground := Go.Ground.data }], guard := none }) (v := ?_) rfl (by kernel_rfl) (by kernel_rfl) (by kernel_rfl) (fun _ _ _ h => h) (Or.inl ⟨by rfl, ?_⟩) (by assumption) ?_
  rotate_left
  · intro w9 hSw
    try dsimp only at hSw
    go_simp
    try with_reducible rfl
  try simp only [Act.put, List.setIfInBounds_toArray, List.set_cons_zero, List.set_cons_succ]
  refine wpAnyH_take (i := 2) (oi := { dst := some 44, op := Go.Op.move (Go.Operand.tmp 43), type := 4, pos := "outright.go:163", after := #[{ on := 1, ground := Go.Ground.data }], guard := none }) (v := ?_) rfl (by kernel_rfl) (by kernel_rfl) (by kernel_rfl) (fun _ _ _ h => h) (Or.inl ⟨by rfl, ?_⟩) (by assumption) ?_
  rotate_left
  · intro w9 hSw
    try dsimp only at hSw
    go_simp
    try with_reducible rfl
  try simp only [Act.put, List.setIfInBounds_toArray, List.set_cons_zero, List.set_cons_succ]
  refine wpAnyH_take (i := 3) (oi := { dst := some 45, op := Go.Op.move (Go.Operand.tmp 9), type := 3, pos := "outright.go:163", after := #[{ on := 2, ground := Go.Ground.guard }], guard := some (2, true) }) (v := ?_) rfl (by kernel_rfl) (by kernel_rfl) (by kernel_rfl) (fun _ _ _ h => h) (Or.inl ⟨by rfl, ?_⟩) (by assumption) ?_
  rotate_left
  · intro w9 hSw
    try dsimp only at hSw
    go_simp
    try with_reducible rfl
  try simp only [Act.put, List.setIfInBounds_toArray, List.set_cons_zero, List.set_cons_succ]
  refine wpAnyH_take (i := 4) (oi := { dst := some 46, op := Go.Op.binOp Go.BinOp.lss 3 (Go.Operand.tmp 45) (Go.Operand.const (Go.Value.int Go.IntKind.i64 2)) 3, type := 4, pos := "outright.go:163", after := #[{ on := 3, ground := Go.Ground.data }, { on := 2, ground := Go.Ground.guard }], guard := some (2, true) }) (v := ?_) rfl (by kernel_rfl) (by kernel_rfl) (by kernel_rfl) (fun _ _ _ h => h) (Or.inl ⟨by rfl, ?_⟩) (by assumption) ?_
  rotate_left
  · intro w9 hSw
    try dsimp only at hSw
    go_simp
    try with_reducible rfl
  try simp only [Act.put, List.setIfInBounds_toArray, List.set_cons_zero, List.set_cons_succ]
  refine wpAnyH_take (i := 5) (oi := { dst := some 47, op := Go.Op.pick (Go.Operand.tmp 44) (Go.Operand.tmp 46) (Go.Operand.const (Go.Value.bool false)), type := 4, pos := "outright.go:163", after := #[{ on := 2, ground := Go.Ground.data }, { on := 4, ground := Go.Ground.data }], guard := none }) (v := ?_) rfl (by kernel_rfl) (by kernel_rfl) (by kernel_rfl) (fun _ _ _ h => h) (Or.inl ⟨by rfl, ?_⟩) (by assumption) ?_
  rotate_left
  · intro w9 hSw
    try dsimp only at hSw
    go_simp
    try with_reducible rfl
  try simp only [Act.put, List.setIfInBounds_toArray, List.set_cons_zero, List.set_cons_succ]
  refine wpAnyH_take (i := 6) (oi := { dst := some 48, op := Go.Op.move (Go.Operand.tmp 47), type := 4, pos := "outright.go:163", after := #[{ on := 5, ground := Go.Ground.data }, { on := 2, ground := Go.Ground.chain }], guard := none }) (v := ?_) rfl (by kernel_rfl) (by kernel_rfl) (by kernel_rfl) (fun _ _ _ h => h) (Or.inl ⟨by rfl, ?_⟩) (by assumption) ?_
  rotate_left
  · intro w9 hSw
    try dsimp only at hSw
    go_simp
    try with_reducible rfl
  try simp only [Act.put, List.setIfInBounds_toArray, List.set_cons_zero, List.set_cons_succ]
  refine wpAnyH_take (i := 7) (oi := { dst := some 49, op := Go.Op.move (Go.Operand.tmp 10), type := 3, pos := "outright.go:163", after := #[{ on := 6, ground := Go.Ground.guard }], guard := some (6, true) }) (v := ?_) rfl (by kernel_rfl) (by kernel_rfl) (by kernel_rfl) (fun _ _ _ h => h) (Or.inl ⟨by rfl, ?_⟩) (by assumption) ?_
  rotate_left
  · intro w9 hSw
    try dsimp only at hSw
    go_simp
    try with_reducible rfl
  try simp only [Act.put, List.setIfInBounds_toArray, List.set_cons_zero, List.set_cons_succ]
  refine wpAnyH_take (i := 8) (oi := { dst := some 50, op := Go.Op.move (Go.Operand.tmp 9), type := 3, pos := "outright.go:163", after := #[{ on := 6, ground := Go.Ground.guard }], guard := some (6, true) }) (v := ?_) rfl (by kernel_rfl) (by kernel_rfl) (by kernel_rfl) (fun _ _ _ h => h) (Or.inl ⟨by rfl, ?_⟩) (by assumption) ?_
  rotate_left
  · intro w9 hSw
    try dsimp only at hSw
    go_simp
    try with_reducible rfl
  try simp only [Act.put, List.setIfInBounds_toArray, List.set_cons_zero, List.set_cons_succ]
  refine wpAnyH_take (i := 9) (oi := { dst := some 51, op := Go.Op.binOp Go.BinOp.neq 3 (Go.Operand.tmp 49) (Go.Operand.tmp 50) 3, type := 4, pos := "outright.go:163", after := #[{ on := 7, ground := Go.Ground.data }, { on := 8, ground := Go.Ground.data }, { on := 6, ground := Go.Ground.guard }], guard := some (6, true) }) (v := ?_) rfl (by kernel_rfl) (by kernel_rfl) (by kernel_rfl) (fun _ _ _ h => h) (Or.inl ⟨by rfl, ?_⟩) (by assumption) ?_
  rotate_left
  · intro w9 hSw
    try dsimp only at hSw
    go_simp
    try with_reducible rfl
  try simp only [Act.put, List.setIfInBounds_toArray, List.set_cons_zero, List.set_cons_succ]
  refine wpAnyH_take (i := 10) (oi := { dst := some 52, op := Go.Op.pick (Go.Operand.tmp 48) (Go.Operand.tmp 51) (Go.Operand.const (Go.Value.bool false)), type := 4, pos := "outright.go:163", after := #[{ on := 6, ground := Go.Ground.data }, { on := 9, ground := Go.Ground.data }], guard := none }) (v := ?_) rfl (by kernel_rfl) (by kernel_rfl) (by kernel_rfl) (fun _ _ _ h => h) (Or.inl ⟨by rfl, ?_⟩) (by assumption) ?_
  rotate_left
  · intro w9 hSw
    try dsimp only at hSw
    go_simp
    try with_reducible rfl
  try simp only [Act.put, List.setIfInBounds_toArray, List.set_cons_zero, List.set_cons_succ]
  refine wpAnyH_take (i := 11) (oi := { dst := some 53, op := Go.Op.move (Go.Operand.tmp 52), type := 4, pos := "outright.go:163", after := #[{ on := 10, ground := Go.Ground.data }, { on := 6, ground := Go.Ground.chain }], guard := none }) (v := ?_) rfl (by kernel_rfl) (by kernel_rfl) (by kernel_rfl) (fun _ _ _ h => h) (Or.inl ⟨by rfl, ?_⟩) (by assumption) ?_
  rotate_left
  · intro w9 hSw
    try dsimp only at hSw
    go_simp
    try with_reducible rfl
  try simp only [Act.put, List.setIfInBounds_toArray, List.set_cons_zero, List.set_cons_succ]
  refine wpAnyH_take (i := 12) (oi := { dst := some 54, op := Go.Op.move (Go.Operand.tmp 9), type := 3, pos := "outright.go:163", after := #[{ on := 11, ground := Go.Ground.guard }], guard := some (11, true) }) (v := ?_) rfl (by kernel_rfl) (by kernel_rfl) (by kernel_rfl) (fun _ _ _ h => h) (Or.inl ⟨by rfl, ?_⟩) (by assumption) ?_
  rotate_left
  · intro w9 hSw
    try dsimp only at hSw
    go_simp
    try with_reducible rfl
  try simp only [Act.put, List.setIfInBounds_toArray, List.set_cons_zero, List.set_cons_succ]
  refine wpAnyH_take (i := 13) (oi := { dst := some 55, op := Go.Op.indexAddr 34 (Go.Operand.tmp 4) (Go.Operand.tmp 54), type := 0, pos := "outright.go:163", after := #[{ on := 12, ground := Go.Ground.data }, { on := 11, ground := Go.Ground.guard }], guard := some (11, true) }) (v := ?_) rfl (by kernel_rfl) (by kernel_rfl) (by kernel_rfl) (fun _ _ _ h => h) (Or.inl ⟨by rfl, ?_⟩) (by assumption) ?_
  rotate_left
  · intro w9 hSw
    try dsimp only at hSw
    go_simp
    try with_reducible rfl
  try simp only [Act.put, List.setIfInBounds_toArray, List.set_cons_zero, List.set_cons_succ]
  refine wpAnyH_take (i := 14) (oi := { dst := some 56, op := Go.Op.fieldAddr 33 (Go.Operand.tmp 55) 0, type := 0, pos := "outright.go:163", after := #[{ on := 13, ground := Go.Ground.data }, { on := 11, ground := Go.Ground.guard }], guard := some (11, true) }) (v := ?_) rfl (by kernel_rfl) (by kernel_rfl) (by kernel_rfl) (fun _ _ _ h => h) (Or.inl ⟨by rfl, ?_⟩) (by assumption) ?_
  rotate_left
  · intro w9 hSw
    try dsimp only at hSw
    go_simp
    try with_reducible rfl
  try simp only [Act.put, List.setIfInBounds_toArray, List.set_cons_zero, List.set_cons_succ]
  refine wpAnyH_take (i := 15) (oi := { dst := some 57, op := Go.Op.load 5 (Go.Operand.tmp 56), type := 5, pos := "outright.go:163", after := #[{ on := 14, ground := Go.Ground.data }, { on := 11, ground := Go.Ground.guard }], guard := some (11, true) }) (v := ?_) rfl (by kernel_rfl) (by kernel_rfl) (by kernel_rfl) (fun _ _ _ h => h) (Or.inl ⟨by rfl, ?_⟩) (by assumption) ?_
  rotate_left
  · intro w9 hSw
    try dsimp only at hSw
    go_simp
    try with_reducible rfl
  try simp only [Act.put, List.setIfInBounds_toArray, List.set_cons_zero, List.set_cons_succ]
  refine wpAnyH_take (i := 16) (oi := { dst := some 58, op := Go.Op.binOp Go.BinOp.eql 5 (Go.Operand.tmp 57) (Go.Operand.const (Go.Value.int Go.IntKind.u8 1)) 5, type := 4, pos := "outright.go:163", after := #[{ on := 15, ground := Go.Ground.data }, { on := 11, ground := Go.Ground.guard }], guard := some (11, true) }) (v := ?_) rfl (by kernel_rfl) (by kernel_rfl) (by kernel_rfl) (fun _ _ _ h => h) (Or.inl ⟨by rfl, ?_⟩) (by assumption) ?_
  rotate_left
  · intro w9 hSw
    try dsimp only at hSw
    go_simp
    try with_reducible rfl
  try simp only [Act.put, List.setIfInBounds_toArray, List.set_cons_zero, List.set_cons_succ]
  refine wpAnyH_take (i := 17) (oi := { dst := some 59, op := Go.Op.pick (Go.Operand.tmp 53) (Go.Operand.tmp 58) (Go.Operand.const (Go.Value.bool false)), type := 4, pos := "outright.go:163", after := #[{ on := 11, ground := Go.Ground.data }, { on := 16, ground := Go.Ground.data }], guard := none }) (v := ?_) rfl (by kernel_rfl) (by kernel_rfl) (by kernel_rfl) (fun _ _ _ h => h) (Or.inl ⟨by rfl, ?_⟩) (by assumption) ?_
  rotate_left
  · intro w9 hSw
    try dsimp only at hSw
    go_simp
    try with_reducible rfl
  try simp only [Act.put, List.setIfInBounds_toArray, List.set_cons_zero, List.set_cons_succ]
  refine wpAnyH_take (i := 18) (oi := { dst := some 60, op := Go.Op.move (Go.Operand.tmp 59), type := 4, pos := "outright.go:163", after := #[{ on := 17, ground := Go.Ground.data }, { on := 11, ground := Go.Ground.chain }], guard := none }) (v := ?_) rfl (by kernel_rfl) (by kernel_rfl) (by kernel_rfl) (fun _ _ _ h => h) (Or.inl ⟨by rfl, ?_⟩) (by assumption) ?_
  rotate_left
  · intro w9 hSw
    try dsimp only at hSw
    go_simp
    try with_reducible rfl
  try simp only [Act.put, List.setIfInBounds_toArray, List.set_cons_zero, List.set_cons_succ]
  refine wpAnyH_take (i := 19) (oi := { dst := some 61, op := Go.Op.move (Go.Operand.tmp 9), type := 3, pos := "outright.go:163", after := #[{ on := 18, ground := Go.Ground.guard }], guard := some (18, true) }) (v := ?_) rfl (by kernel_rfl) (by kernel_rfl) (by kernel_rfl) (fun _ _ _ h => h) (Or.inl ⟨by rfl, ?_⟩) (by assumption) ?_
  rotate_left
  · intro w9 hSw
    try dsimp only at hSw
    go_simp
    try with_reducible rfl
  try simp only [Act.put, List.setIfInBounds_toArray, List.set_cons_zero, List.set_cons_succ]
  refine wpAnyH_take (i := 20) (oi := { dst := some 62, op := Go.Op.indexAddr 34 (Go.Operand.tmp 4) (Go.Operand.tmp 61), type := 0, pos := "outright.go:163", after := #[{ on := 19, ground := Go.Ground.data }, { on := 18, ground := Go.Ground.guard }], guard := some (18, true) }) (v := ?_) rfl (by kernel_rfl) (by kernel_rfl) (by kernel_rfl) (fun _ _ _ h => h) (Or.inl ⟨by rfl, ?_⟩) (by assumption) ?_
  rotate_left
  · intro w9 hSw
    try dsimp only at hSw
    go_simp
    try with_reducible rfl
  try simp only [Act.put, List.setIfInBounds_toArray, List.set_cons_zero, List.set_cons_succ]
  refine wpAnyH_take (i := 21) (oi := { dst := some 63, op := Go.Op.fieldAddr 33 (Go.Operand.tmp 62) 1, type := 0, pos := "outright.go:163", after := #[{ on := 20, ground := Go.Ground.data }, { on := 18, ground := Go.Ground.guard }], guard := some (18, true) }) (v := ?_) rfl (by kernel_rfl) (by kernel_rfl) (by kernel_rfl) (fun _ _ _ h => h) (Or.inl ⟨by rfl, ?_⟩) (by assumption) ?_
  rotate_left
  · intro w9 hSw
    try dsimp only at hSw
    go_simp
    try with_reducible rfl
  try simp only [Act.put, List.setIfInBounds_toArray, List.set_cons_zero, List.set_cons_succ]
  refine wpAnyH_take (i := 22) (oi := { dst := some 64, op := Go.Op.load 3 (Go.Operand.tmp 63), type := 3, pos := "outright.go:163", after := #[{ on := 21, ground := Go.Ground.data }, { on := 18, ground := Go.Ground.guard }], guard := some (18, true) }) (v := ?_) rfl (by kernel_rfl) (by kernel_rfl) (by kernel_rfl) (fun _ _ _ h => h) (Or.inl ⟨by rfl, ?_⟩) (by assumption) ?_
  rotate_left
  · intro w9 hSw
    try dsimp only at hSw
    go_simp
    try with_reducible rfl
  try simp only [Act.put, List.setIfInBounds_toArray, List.set_cons_zero, List.set_cons_succ]
  refine wpAnyH_take (i := 23) (oi := { dst := some 65, op := Go.Op.move (Go.Operand.tmp 2), type := 3, pos := "outright.go:163", after := #[{ on := 18, ground := Go.Ground.guard }], guard := some (18, true) }) (v := ?_) rfl (by kernel_rfl) (by kernel_rfl) (by kernel_rfl) (fun _ _ _ h => h) (Or.inl ⟨by rfl, ?_⟩) (by assumption) ?_
  rotate_left
  · intro w9 hSw
    try dsimp only at hSw
    go_simp
    try with_reducible rfl
  try simp only [Act.put, List.setIfInBounds_toArray, List.set_cons_zero, List.set_cons_succ]
  refine wpAnyH_take (i := 24) (oi := { dst := some 66, op := Go.Op.binOp Go.BinOp.eql 3 (Go.Operand.tmp 64) (Go.Operand.tmp 65) 3, type := 4, pos := "outright.go:163", after := #[{ on := 22, ground := Go.Ground.data }, { on := 23, ground := Go.Ground.data }, { on := 18, ground := Go.Ground.guard }], guard := some (18, true) }) (v := ?_) rfl (by kernel_rfl) (by kernel_rfl) (by kernel_rfl) (fun _ _ _ h => h) (Or.inl ⟨by rfl, ?_⟩) (by assumption) ?_
  rotate_left
  · intro w9 hSw
    try dsimp only at hSw
    go_simp
    try with_reducible rfl
  try simp only [Act.put, List.setIfInBounds_toArray, List.set_cons_zero, List.set_cons_succ]
  refine wpAnyH_take (i := 25) (oi := { dst := some 67, op := Go.Op.pick (Go.Operand.tmp 60) (Go.Operand.tmp 66) (Go.Operand.const (Go.Value.bool false)), type := 4, pos := "outright.go:163", after := #[{ on := 18, ground := Go.Ground.data }, { on := 24, ground := Go.Ground.data }], guard := none }) (v := ?_) rfl (by kernel_rfl) (by kernel_rfl) (by kernel_rfl) (fun _ _ _ h => h) (Or.inl ⟨by rfl, ?_⟩) (by assumption) ?_
  rotate_left
  · intro w9 hSw
    try dsimp only at hSw
    go_simp
    try with_reducible rfl
  try simp only [Act.put, List.setIfInBounds_toArray, List.set_cons_zero, List.set_cons_succ]
  refine wpAnyH_take (i := 26) (oi := { dst := some 68, op := Go.Op.move (Go.Operand.tmp 67), type := 4, pos := "outright.go:163", after := #[{ on := 25, ground := Go.Ground.data }, { on := 18, ground := Go.Ground.chain }], guard := none }) (v := ?_) rfl (by kernel_rfl) (by kernel_rfl) (by kernel_rfl) (fun _ _ _ h => h) (Or.inl ⟨by rfl, ?_⟩) (by assumption) ?_
  rotate_left
  · intro w9 hSw
    try dsimp only at hSw
    go_simp
    try with_reducible rfl
  try simp only [Act.put, List.setIfInBounds_toArray, List.set_cons_zero, List.set_cons_succ]
  refine wpAnyH_take (i := 27) (oi := { dst := some 69, op := Go.Op.fieldAddr 37 (Go.Operand.tmp 8) 2, type := 0, pos := "outright.go:163", after := #[{ on := 26, ground := Go.Ground.guard }], guard := some (26, true) }) (v := ?_) rfl (by kernel_rfl) (by kernel_rfl) (by kernel_rfl) (fun _ _ _ h => h) (Or.inl ⟨by rfl, ?_⟩) (by assumption) ?_
  rotate_left
  · intro w9 hSw
    try dsimp only at hSw
    go_simp
    try with_reducible rfl
  try simp only [Act.put, List.setIfInBounds_toArray, List.set_cons_zero, List.set_cons_succ]
  refine wpAnyH_take (i := 28) (oi := { dst := some 70, op := Go.Op.load 25 (Go.Operand.tmp 69), type := 25, pos := "outright.go:163", after := #[{ on := 27, ground := Go.Ground.data }, { on := 26, ground := Go.Ground.guard }], guard := some (26, true) }) (v := ?_) rfl (by kernel_rfl) (by kernel_rfl) (by kernel_rfl) (fun _ _ _ h => h) (Or.inl ⟨by rfl, ?_⟩) (by assumption) ?_
  rotate_left
  · intro w9 hSw
    try dsimp only at hSw
    go_simp
    try with_reducible rfl
  try simp only [Act.put, List.setIfInBounds_toArray, List.set_cons_zero, List.set_cons_succ]
  refine wpAnyH_take (i := 29) (oi := { dst := some 71, op := Go.Op.move (Go.Operand.tmp 9), type := 3, pos := "outright.go:163", after := #[{ on := 26, ground := Go.Ground.guard }], guard := some (26, true) }) (v := ?_) rfl (by kernel_rfl) (by kernel_rfl) (by kernel_rfl) (fun _ _ _ h => h) (Or.inl ⟨by rfl, ?_⟩) (by assumption) ?_
  rotate_left
  · intro w9 hSw
    try dsimp only at hSw
    go_simp
    try with_reducible rfl
  try simp only [Act.put, List.setIfInBounds_toArray, List.set_cons_zero, List.set_cons_succ]
  refine wpAnyH_take (i := 30) (oi := { dst := some 72, op := Go.Op.indexAddr 34 (Go.Operand.tmp 4) (Go.Operand.tmp 71), type := 0, pos := "outright.go:163", after := #[{ on := 29, ground := Go.Ground.data }, { on := 26, ground := Go.Ground.guard }], guard := some (26, true) }) (v := ?_) rfl (by kernel_rfl) (by kernel_rfl) (by kernel_rfl) (fun _ _ _ h => h) (Or.inl ⟨by rfl, ?_⟩) (by assumption) ?_
  rotate_left
  · intro w9 hSw
    try dsimp only at hSw
    go_simp
    try with_reducible rfl
  try simp only [Act.put, List.setIfInBounds_toArray, List.set_cons_zero, List.set_cons_succ]
  refine wpAnyH_take (i := 31) (oi := { dst := some 73, op := Go.Op.fieldAddr 33 (Go.Operand.tmp 72) 2, type := 0, pos := "outright.go:163", after := #[{ on := 30, ground := Go.Ground.data }, { on := 26, ground := Go.Ground.guard }], guard := some (26, true) }) (v := ?_) rfl (by kernel_rfl) (by kernel_rfl) (by kernel_rfl) (fun _ _ _ h => h) (Or.inl ⟨by rfl, ?_⟩) (by assumption) ?_
  rotate_left
  · intro w9 hSw
    try dsimp only at hSw
    go_simp
    try with_reducible rfl
  try simp only [Act.put, List.setIfInBounds_toArray, List.set_cons_zero, List.set_cons_succ]
  refine wpAnyH_take (i := 32) (oi := { dst := some 74, op := Go.Op.load 25 (Go.Operand.tmp 73), type := 25, pos := "outright.go:163", after := #[{ on := 31, ground := Go.Ground.data }, { on := 26, ground := Go.Ground.guard }], guard := some (26, true) }) (v := ?_) rfl (by kernel_rfl) (by kernel_rfl) (by kernel_rfl) (fun _ _ _ h => h) (Or.inl ⟨by rfl, ?_⟩) (by assumption) ?_
  rotate_left
  · intro w9 hSw
    try dsimp only at hSw
    go_simp
    try with_reducible rfl
  try simp only [Act.put, List.setIfInBounds_toArray, List.set_cons_zero, List.set_cons_succ]
  refine wpAnyH_take (i := 33) (oi := { dst := some 75, op := Go.Op.binOp Go.BinOp.eql 25 (Go.Operand.tmp 70) (Go.Operand.tmp 74) 25, type := 4, pos := "outright.go:163", after := #[{ on := 28, ground := Go.Ground.data }, { on := 32, ground := Go.Ground.data }, { on := 26, ground := Go.Ground.guard }], guard := some (26, true) }) (v := ?_) rfl (by kernel_rfl) (by kernel_rfl) (by kernel_rfl) (fun _ _ _ h => h) (Or.inl ⟨by rfl, ?_⟩) (by assumption) ?_
  rotate_left
  · intro w9 hSw
    try dsimp only at hSw
    go_simp
    try with_reducible rfl
  try simp only [Act.put, List.setIfInBounds_toArray, List.set_cons_zero, List.set_cons_succ]
  refine wpAnyH_take (i := 34) (oi := { dst := some 76, op := Go.Op.pick (Go.Operand.tmp 68) (Go.Operand.tmp 75) (Go.Operand.const (Go.Value.bool false)), type := 4, pos := "outright.go:163", after := #[{ on := 26, ground := Go.Ground.data }, { on := 33, ground := Go.Ground.data }], guard := none }) (v := ?_) rfl (by kernel_rfl) (by kernel_rfl) (by kernel_rfl) (fun _ _ _ h => h) (Or.inl ⟨by rfl, ?_⟩) (by assumption) ?_
  rotate_left
  · intro w9 hSw
    try dsimp only at hSw
    go_simp
    try with_reducible rfl
  try simp only [Act.put, List.setIfInBounds_toArray, List.set_cons_zero, List.set_cons_succ]
  refine wpAnyH_take (i := 35) (oi := { dst := some 77, op := Go.Op.move (Go.Operand.tmp 76), type := 4, pos := "outright.go:163", after := #[{ on := 34, ground := Go.Ground.data }, { on := 26, ground := Go.Ground.chain }], guard := none }) (v := ?_) rfl (by kernel_rfl) (by kernel_rfl) (by kernel_rfl) (fun _ _ _ h => h) (Or.inl ⟨by rfl, ?_⟩) (by assumption) ?_
  rotate_left
  · intro w9 hSw
    try dsimp only at hSw
    go_simp
    try with_reducible rfl
  try simp only [Act.put, List.setIfInBounds_toArray, List.set_cons_zero, List.set_cons_succ]
  refine wpAnyH_take (i := 36) (oi := { dst := some 78, op := Go.Op.fieldAddr 37 (Go.Operand.tmp 8) 3, type := 0, pos := "outright.go:163", after := #[{ on := 35, ground := Go.Ground.guard }], guard := some (35, true) }) (v := ?_) rfl (by kernel_rfl) (by kernel_rfl) (by kernel_rfl) (fun _ _ _ h => h) (Or.inl ⟨by rfl, ?_⟩) (by assumption) ?_
  rotate_left
  · intro w9 hSw
    try dsimp only at hSw
    go_simp
    try with_reducible rfl
  try simp only [Act.put, List.setIfInBounds_toArray, List.set_cons_zero, List.set_cons_succ]
  refine wpAnyH_take (i := 37) (oi := { dst := some 79, op := Go.Op.load 31 (Go.Operand.tmp 78), type := 31, pos := "outright.go:163", after := #[{ on := 36, ground := Go.Ground.data }, { on := 35, ground := Go.Ground.guard }], guard := some (35, true) }) (v := ?_) rfl (by kernel_rfl) (by kernel_rfl) (by kernel_rfl) (fun _ _ _ h => h) (Or.inl ⟨by rfl, ?_⟩) (by assumption) ?_
  rotate_left
  · intro w9 hSw
    try dsimp only at hSw
    go_simp
    try with_reducible rfl
  try simp only [Act.put, List.setIfInBounds_toArray, List.set_cons_zero, List.set_cons_succ]
  refine wpAnyH_take (i := 38) (oi := { dst := some 80, op := Go.Op.move (Go.Operand.tmp 9), type := 3, pos := "outright.go:163", after := #[{ on := 35, ground := Go.Ground.guard }], guard := some (35, true) }) (v := ?_) rfl (by kernel_rfl) (by kernel_rfl) (by kernel_rfl) (fun _ _ _ h => h) (Or.inl ⟨by rfl, ?_⟩) (by assumption) ?_
  rotate_left
  · intro w9 hSw
    try dsimp only at hSw
    go_simp
    try with_reducible rfl
  try simp only [Act.put, List.setIfInBounds_toArray, List.set_cons_zero, List.set_cons_succ]
  refine wpAnyH_take (i := 39) (oi := { dst := some 81, op := Go.Op.indexAddr 34 (Go.Operand.tmp 4) (Go.Operand.tmp 80), type := 0, pos := "outright.go:163", after := #[{ on := 38, ground := Go.Ground.data }, { on := 35, ground := Go.Ground.guard }], guard := some (35, true) }) (v := ?_) rfl (by kernel_rfl) (by kernel_rfl) (by kernel_rfl) (fun _ _ _ h => h) (Or.inl ⟨by rfl, ?_⟩) (by assumption) ?_
  rotate_left
  · intro w9 hSw
    try dsimp only at hSw
    go_simp
    try with_reducible rfl
  try simp only [Act.put, List.setIfInBounds_toArray, List.set_cons_zero, List.set_cons_succ]
  refine wpAnyH_take (i := 40) (oi := { dst := some 82, op := Go.Op.fieldAddr 33 (Go.Operand.tmp 81) 3, type := 0, pos := "outright.go:163", after := #[{ on := 39, ground := Go.Ground.data }, { on := 35, ground := Go.Ground.guard }], guard := some (35, true) }) (v := ?_) rfl (by kernel_rfl) (by kernel_rfl) (by kernel_rfl) (fun _ _ _ h => h) (Or.inl ⟨by rfl, ?_⟩) (by assumption) ?_
  rotate_left
  · intro w9 hSw
    try dsimp only at hSw
    go_simp
    try with_reducible rfl
  try simp only [Act.put, List.setIfInBounds_toArray, List.set_cons_zero, List.set_cons_succ]
  refine wpAnyH_take (i := 41) (oi := { dst := some 83, op := Go.Op.load 31 (Go.Operand.tmp 82), type := 31, pos := "outright.go:163", after := #[{ on := 40, ground := Go.Ground.data }, { on := 35, ground := Go.Ground.guard }], guard := some (35, true) }) (v := ?_) rfl (by kernel_rfl) (by kernel_rfl) (by kernel_rfl) (fun _ _ _ h => h) (Or.inl ⟨by rfl, ?_⟩) (by assumption) ?_
  rotate_left
  · intro w9 hSw
    try dsimp only at hSw
    go_simp
    try with_reducible rfl
  try simp only [Act.put, List.setIfInBounds_toArray, List.set_cons_zero, List.set_cons_succ]
  refine wpAnyH_take (i := 42) (oi := { dst := some 84, op := Go.Op.binOp Go.BinOp.eql 31 (Go.Operand.tmp 79) (Go.Operand.tmp 83) 31, type := 4, pos := "outright.go:163", after := #[{ on := 37, ground := Go.Ground.data }, { on := 41, ground := Go.Ground.data }, { on := 35, ground := Go.Ground.guard }], guard := some (35, true) }) (v := ?_) rfl (by kernel_rfl) (by kernel_rfl) (by kernel_rfl) (fun _ _ _ h => h) (Or.inl ⟨by rfl, ?_⟩) (by assumption) ?_
  rotate_left
  · intro w9 hSw
    try dsimp only at hSw
    go_simp
    try with_reducible rfl
  try simp only [Act.put, List.setIfInBounds_toArray, List.set_cons_zero, List.set_cons_succ]
  refine wpAnyH_take (i := 43) (oi := { dst := some 85, op := Go.Op.pick (Go.Operand.tmp 77) (Go.Operand.tmp 84) (Go.Operand.const (Go.Value.bool false)), type := 4, pos := "outright.go:163", after := #[{ on := 35, ground := Go.Ground.data }, { on := 42, ground := Go.Ground.data }], guard := none }) (v := ?_) rfl (by kernel_rfl) (by kernel_rfl) (by kernel_rfl) (fun _ _ _ h => h) (Or.inl ⟨by rfl, ?_⟩) (by assumption) ?_
  rotate_left
  · intro w9 hSw
    try dsimp only at hSw
    go_simp
    try with_reducible rfl
  try simp only [Act.put, List.setIfInBounds_toArray, List.set_cons_zero, List.set_cons_succ]
  refine wpAnyH_take (i := 44) (oi := { dst := some 6, op := Go.Op.assign (Go.Operand.tmp 85), type := 4, pos := "outright.go:163", after := #[{ on := 43, ground := Go.Ground.data }, { on := 35, ground := Go.Ground.chain }, { on := 0, ground := Go.Ground.phase }, { on := 1, ground := Go.Ground.phase }, { on := 2, ground := Go.Ground.phase }, { on := 3, ground := Go.Ground.phase }, { on := 4, ground := Go.Ground.phase }, { on := 5, ground := Go.Ground.phase }, { on := 6, ground := Go.Ground.phase }, { on := 7, ground := Go.Ground.phase }, { on := 8, ground := Go.Ground.phase }, { on := 9, ground := Go.Ground.phase }, { on := 10, ground := Go.Ground.phase }, { on := 11, ground := Go.Ground.phase }, { on := 12, ground := Go.Ground.phase }, { on := 13, ground := Go.Ground.phase }, { on := 14, ground := Go.Ground.phase }, { on := 15, ground := Go.Ground.phase }, { on := 16, ground := Go.Ground.phase }, { on := 17, ground := Go.Ground.phase }, { on := 18, ground := Go.Ground.phase }, { on := 19, ground := Go.Ground.phase }, { on := 20, ground := Go.Ground.phase }, { on := 21, ground := Go.Ground.phase }, { on := 22, ground := Go.Ground.phase }, { on := 23, ground := Go.Ground.phase }, { on := 24, ground := Go.Ground.phase }, { on := 25, ground := Go.Ground.phase }, { on := 26, ground := Go.Ground.phase }, { on := 27, ground := Go.Ground.phase }, { on := 28, ground := Go.Ground.phase }, { on := 29, ground := Go.Ground.phase }, { on := 30, ground := Go.Ground.phase }, { on := 31, ground := Go.Ground.phase }, { on := 32, ground := Go.Ground.phase }, { on := 33, ground := Go.Ground.phase }, { on := 34, ground := Go.Ground.phase }, { on := 35, ground := Go.Ground.phase }, { on := 36, ground := Go.Ground.phase }, { on := 37, ground := Go.Ground.phase }, { on := 38, ground := Go.Ground.phase }, { on := 39, ground := Go.Ground.phase }, { on := 40, ground := Go.Ground.phase }, { on := 41, ground := Go.Ground.phase }, { on := 42, ground := Go.Ground.phase }, { on := 43, ground := Go.Ground.phase }], guard := none }) (v := ?_) rfl (by kernel_rfl) (by kernel_rfl) (by kernel_rfl) (fun _ _ _ h => h) (Or.inl ⟨by rfl, ?_⟩) (by assumption) ?_
  rotate_left
  · intro w9 hSw
    try dsimp only at hSw
    go_simp
    try with_reducible rfl
  try simp only [Act.put, List.setIfInBounds_toArray, List.set_cons_zero, List.set_cons_succ]
  refine wpAnyH_done (by kernel_rfl) ?_ _
  clear hHeld
  go_wp2_with fail
  go_ret
  exact ⟨rfl, HP.out.2.2.drew⟩

set_option maxRecDepth 100000 in
set_option maxHeartbeats 1600000 in
theorem where1 (p : Rec) (f0 f1 : Cop) (i : Int) (w : World) (hgr : grB p f0 f1 = false) (hk : whereL p f0 f1 i = 1) :
    Calls Try.prog 4 #[.agg #[.int .u8 (p.st : Int), .int .i64 p.ix, .int .i64 p.bx, .int .i64 p.yb, .int .i64 p.wh], .agg #[.int .u8 (f0.st : Int), .int .i64 f0.ix, .int .i64 f0.bx, .int .i64 f0.yb, .int .u8 (f0.e.k : Int), .int .i64 f0.e.cl, .int .i64 f0.e.sq, .int .u8 (f0.e.ok : Int), .string f0.e.key, .string f0.e.old, .string f0.e.val, .int .u8 (f1.st : Int), .int .i64 f1.ix, .int .i64 f1.bx, .int .i64 f1.yb, .int .u8 (f1.e.k : Int), .int .i64 f1.e.cl, .int .i64 f1.e.sq, .int .u8 (f1.e.ok : Int), .string f1.e.key, .string f1.e.old, .string f1.e.val], .int .i64 i] w fun e w' => e = .returned (.bool true) ∧ Ext w w' := by
  obtain ⟨hp, h0, h1, hw⟩ := grB_no hgr
  have HG := Lib.hid (great_of p f0 f1)
  rw [hgr] at HG
  have HA := Lib.hid awake_of
  have HW := Lib.hid (what_at1 p f0 f1 i hp h0 h1 hw hk)
  have HN := Lib.hid (next_of p f0 f1 i · hp h0 h1 hw)
  have HP := Lib.hid (next_pre w p f0 f1)
  have hof : f1.st = 1 ∧ f1.ix = i := by
    rcases whereL_of (p := p) (f0 := f0) (f1 := f1) (i := i) with h | ⟨h, x⟩ | ⟨h, x⟩
    · omega
    · omega
    · exact x
  have hs1 : ((f1.st : Int) == 1) = true := by simp [hof.1]
  have hix : (f1.ix == i) = true := by simp [hof.2]
  rw [show nextL p f0 f1 i = 0 from by unfold nextL; rw [hk]; rfl] at HN
  clear hgr hp h0 h1 hw hk hof
  have hqe := lent_eql_self f1.e.k f1.e.cl f1.e.sq f1.e.ok f1.e.key f1.e.old f1.e.val
  have hqb := lbal_eql_self f1.bx f1.yb
  have hge : Try.prog.eqGuardType Try.prog.depth 31 = false := by kernel_rfl
  have hgb : Try.prog.eqGuardType Try.prog.depth 25 = false := by kernel_rfl
  go_enter Try.func4, Try.ntmps4
  go_upto_region 1 with (fail)
  generalize ((w.alloc (.cells #[.int .u8 (p.st : Int), .int .i64 p.ix, .int .i64 p.bx, .int .i64 p.yb, .int .i64 p.wh] 27)).alloc (.cells #[.int .u8 (f0.st : Int), .int .i64 f0.ix, .int .i64 f0.bx, .int .i64 f0.yb, .int .u8 (f0.e.k : Int), .int .i64 f0.e.cl, .int .i64 f0.e.sq, .int .u8 (f0.e.ok : Int), .string f0.e.key, .string f0.e.old, .string f0.e.val, .int .u8 (f1.st : Int), .int .i64 f1.ix, .int .i64 f1.bx, .int .i64 f1.yb, .int .u8 (f1.e.k : Int), .int .i64 f1.e.cl, .int .i64 f1.e.sq, .int .u8 (f1.e.ok : Int), .string f1.e.key, .string f1.e.old, .string f1.e.val] 34)) = W at *
  generalize w.heap.size + 1 = g1 at *
  generalize hg : w.heap.size = g at *
  have HGG := Lib.hid hg
  clear hg
  go_wp2_with fail
  refine (HA.out W).mono ?_
  rintro e w1 ⟨rfl, hx⟩
  have HP := Lib.hid (⟨HP.out.1.ext hx, HP.out.2.1.ext hx, HP.out.2.2.trans hx⟩ : RecAt w1 g p ∧ Two w1 g1 f0 f1 ∧ Ext w w1)
  clear hx HA
  have q0 := cell_of_row w1 g 0 _ _ _ (HP.out.1)
  have q1 := cell_of_row w1 g 1 _ _ _ (HP.out.1)
  have q2 := cell_of_row w1 g 2 _ _ _ (HP.out.1)
  have q3 := cell_of_row w1 g 3 _ _ _ (HP.out.1)
  have q4 := cell_of_row w1 g 4 _ _ _ (HP.out.1)
  obtain ⟨N, hN, hsz⟩ := size_two
  have hld := load_two hN HP.out.2.1
  have HNN := Lib.hid hN
  clear hN
  go_wp2_with fail
  refine (HG.out w1).mono ?_
  rintro e w2 ⟨rfl, hx⟩
  have HP := Lib.hid (⟨HP.out.1.ext hx, HP.out.2.1.ext hx, HP.out.2.2.trans hx⟩ : RecAt w2 g p ∧ Two w2 g1 f0 f1 ∧ Ext w w2)
  clear hx hsz hld HNN q0 q1 q2 q3 q4 HG
  have q0 := cell_of_row w2 g 0 _ _ _ (HP.out.1)
  have q1 := cell_of_row w2 g 1 _ _ _ (HP.out.1)
  have q2 := cell_of_row w2 g 2 _ _ _ (HP.out.1)
  have q3 := cell_of_row w2 g 3 _ _ _ (HP.out.1)
  have q4 := cell_of_row w2 g 4 _ _ _ (HP.out.1)
  obtain ⟨N, hN, hsz⟩ := size_two
  have hld := load_two hN HP.out.2.1
  have HNN := Lib.hid hN
  clear hN
  go_wp2_with fail
  refine (HW.out w2).mono ?_
  rintro e w3 ⟨rfl, hx⟩
  have HP := Lib.hid (⟨HP.out.1.ext hx, HP.out.2.1.ext hx, HP.out.2.2.trans hx⟩ : RecAt w3 g p ∧ Two w3 g1 f0 f1 ∧ Ext w w3)
  clear hx hsz hld HNN q0 q1 q2 q3 q4 HW
  have hx := (Ext.refl w3).alloc (.cells #[.int .i64 i, .int .u8 2, .int .i64 f1.bx, .int .i64 f1.yb, .int .u8 (f1.e.k : Int), .int .i64 f1.e.cl, .int .i64 f1.e.sq, .int .u8 (f1.e.ok : Int), .string f1.e.key, .string f1.e.old, .string f1.e.val] 37)
  have HP := Lib.hid (⟨HP.out.1.ext hx, HP.out.2.1.ext hx, HP.out.2.2.trans hx⟩ : RecAt (w3.alloc (.cells #[.int .i64 i, .int .u8 2, .int .i64 f1.bx, .int .i64 f1.yb, .int .u8 (f1.e.k : Int), .int .i64 f1.e.cl, .int .i64 f1.e.sq, .int .u8 (f1.e.ok : Int), .string f1.e.key, .string f1.e.old, .string f1.e.val] 37)) g p ∧ Two (w3.alloc (.cells #[.int .i64 i, .int .u8 2, .int .i64 f1.bx, .int .i64 f1.yb, .int .u8 (f1.e.k : Int), .int .i64 f1.e.cl, .int .i64 f1.e.sq, .int .u8 (f1.e.ok : Int), .string f1.e.key, .string f1.e.old, .string f1.e.val] 37)) g1 f0 f1 ∧ Ext w (w3.alloc (.cells #[.int .i64 i, .int .u8 2, .int .i64 f1.bx, .int .i64 f1.yb, .int .u8 (f1.e.k : Int), .int .i64 f1.e.cl, .int .i64 f1.e.sq, .int .u8 (f1.e.ok : Int), .string f1.e.key, .string f1.e.old, .string f1.e.val] 37)))
  have HRP := Lib.hid (heap_alloc_new w3 (.cells #[.int .i64 i, .int .u8 2, .int .i64 f1.bx, .int .i64 f1.yb, .int .u8 (f1.e.k : Int), .int .i64 f1.e.cl, .int .i64 f1.e.sq, .int .u8 (f1.e.ok : Int), .string f1.e.key, .string f1.e.old, .string f1.e.val] 37))
  clear hx
  go_upto_region 6 with (fail)
  generalize (w3.alloc (.cells #[.int .i64 i, .int .u8 2, .int .i64 f1.bx, .int .i64 f1.yb, .int .u8 (f1.e.k : Int), .int .i64 f1.e.cl, .int .i64 f1.e.sq, .int .u8 (f1.e.ok : Int), .string f1.e.key, .string f1.e.old, .string f1.e.val] 37)) = w4 at *
  generalize w3.heap.size = gr at *
  have q0 := cell_of_row w4 g 0 _ _ _ (HP.out.1)
  have q1 := cell_of_row w4 g 1 _ _ _ (HP.out.1)
  have q2 := cell_of_row w4 g 2 _ _ _ (HP.out.1)
  have q3 := cell_of_row w4 g 3 _ _ _ (HP.out.1)
  have q4 := cell_of_row w4 g 4 _ _ _ (HP.out.1)
  obtain ⟨N, hN, hsz⟩ := size_two
  have hld := load_two hN HP.out.2.1
  have HNN := Lib.hid hN
  clear hN
  go_wp2_with fail
  refine (HN.out w4).mono ?_
  rintro e w5 ⟨rfl, hx⟩
  have HP := Lib.hid (⟨HP.out.1.ext hx, HP.out.2.1.ext hx, HP.out.2.2.trans hx⟩ : RecAt w5 g p ∧ Two w5 g1 f0 f1 ∧ Ext w w5)
  have HRP := Lib.hid (keep_row hx HRP.out)
  clear hx hsz hld HNN q0 q1 q2 q3 q4 HN
  have z0 := cell_of_row w5 gr 0 _ _ _ (HRP.out)
  have z1 := cell_of_row w5 gr 1 _ _ _ (HRP.out)
  have z2 := cell_of_row w5 gr 2 _ _ _ (HRP.out)
  have z3 := cell_of_row w5 gr 3 _ _ _ (HRP.out)
  have z4 := cell_of_row w5 gr 4 _ _ _ (HRP.out)
  have z5 := cell_of_row w5 gr 5 _ _ _ (HRP.out)
  have z6 := cell_of_row w5 gr 6 _ _ _ (HRP.out)
  have z7 := cell_of_row w5 gr 7 _ _ _ (HRP.out)
  have z8 := cell_of_row w5 gr 8 _ _ _ (HRP.out)
  have z9 := cell_of_row w5 gr 9 _ _ _ (HRP.out)
  have z10 := cell_of_row w5 gr 10 _ _ _ (HRP.out)
  go_upto_region 10 with (fail)
  clear z0 z1 z2 z3 z4 z5 z6 z7 z8 z9 z10
  refine wp_region_held_drew (S := fun w' => w'.cell? ⟨g1, 11, none⟩ = some (.int .u8 (f1.st : Int)) ∧ w'.cell? ⟨g1, 12, none⟩ = some (.int .i64 f1.ix) ∧ w'.cell? ⟨g1, 13, none⟩ = some (.int .i64 f1.bx) ∧ w'.cell? ⟨g1, 14, none⟩ = some (.int .i64 f1.yb) ∧ w'.cell? ⟨g1, 15, none⟩ = some (.int .u8 (f1.e.k : Int)) ∧ w'.cell? ⟨g1, 16, none⟩ = some (.int .i64 f1.e.cl) ∧ w'.cell? ⟨g1, 17, none⟩ = some (.int .i64 f1.e.sq) ∧ w'.cell? ⟨g1, 18, none⟩ = some (.int .u8 (f1.e.ok : Int)) ∧ w'.cell? ⟨g1, 19, none⟩ = some (.string f1.e.key) ∧ w'.cell? ⟨g1, 20, none⟩ = some (.string f1.e.old) ∧ w'.cell? ⟨g1, 21, none⟩ = some (.string f1.e.val) ∧ w'.cell? ⟨gr, 0, none⟩ = some (.int .i64 i) ∧ w'.cell? ⟨gr, 1, none⟩ = some (.int .u8 2) ∧ w'.cell? ⟨gr, 2, none⟩ = some (.int .i64 f1.bx) ∧ w'.cell? ⟨gr, 3, none⟩ = some (.int .i64 f1.yb) ∧ w'.cell? ⟨gr, 4, none⟩ = some (.int .u8 (f1.e.k : Int)) ∧ w'.cell? ⟨gr, 5, none⟩ = some (.int .i64 f1.e.cl) ∧ w'.cell? ⟨gr, 6, none⟩ = some (.int .i64 f1.e.sq) ∧ w'.cell? ⟨gr, 7, none⟩ = some (.int .u8 (f1.e.ok : Int)) ∧ w'.cell? ⟨gr, 8, none⟩ = some (.string f1.e.key) ∧ w'.cell? ⟨gr, 9, none⟩ = some (.string f1.e.old) ∧ w'.cell? ⟨gr, 10, none⟩ = some (.string f1.e.val)) (by kernel_rfl) (⟨cell_of_row _ g1 11 _ _ _ (keep_row (Ext.refl w5).drew HP.out.2.1), cell_of_row _ g1 12 _ _ _ (keep_row (Ext.refl w5).drew HP.out.2.1), cell_of_row _ g1 13 _ _ _ (keep_row (Ext.refl w5).drew HP.out.2.1), cell_of_row _ g1 14 _ _ _ (keep_row (Ext.refl w5).drew HP.out.2.1), cell_of_row _ g1 15 _ _ _ (keep_row (Ext.refl w5).drew HP.out.2.1), cell_of_row _ g1 16 _ _ _ (keep_row (Ext.refl w5).drew HP.out.2.1), cell_of_row _ g1 17 _ _ _ (keep_row (Ext.refl w5).drew HP.out.2.1), cell_of_row _ g1 18 _ _ _ (keep_row (Ext.refl w5).drew HP.out.2.1), cell_of_row _ g1 19 _ _ _ (keep_row (Ext.refl w5).drew HP.out.2.1), cell_of_row _ g1 20 _ _ _ (keep_row (Ext.refl w5).drew HP.out.2.1), cell_of_row _ g1 21 _ _ _ (keep_row (Ext.refl w5).drew HP.out.2.1), cell_of_row _ gr 0 _ _ _ (keep_row (Ext.refl w5).drew HRP.out), cell_of_row _ gr 1 _ _ _ (keep_row (Ext.refl w5).drew HRP.out), cell_of_row _ gr 2 _ _ _ (keep_row (Ext.refl w5).drew HRP.out), cell_of_row _ gr 3 _ _ _ (keep_row (Ext.refl w5).drew HRP.out), cell_of_row _ gr 4 _ _ _ (keep_row (Ext.refl w5).drew HRP.out), cell_of_row _ gr 5 _ _ _ (keep_row (Ext.refl w5).drew HRP.out), cell_of_row _ gr 6 _ _ _ (keep_row (Ext.refl w5).drew HRP.out), cell_of_row _ gr 7 _ _ _ (keep_row (Ext.refl w5).drew HRP.out), cell_of_row _ gr 8 _ _ _ (keep_row (Ext.refl w5).drew HRP.out), cell_of_row _ gr 9 _ _ _ (keep_row (Ext.refl w5).drew HRP.out), cell_of_row _ gr 10 _ _ _ (keep_row (Ext.refl w5).drew HRP.out)⟩) (fun hHeld => ?_)
  refine wpAnyH_take (i := 0) (oi := { dst := some 42, op := Go.Op.move (Go.Operand.tmp 9), type := 3, pos := "outright.go:163", after := #[], guard := none }) (v := ?_) rfl (by kernel_rfl) (by kernel_rfl) (by kernel_rfl) (fun _ _ _ h => h) (Or.inl ⟨by rfl, ?_⟩) (by assumption) ?_
  rotate_left
  · intro w9 hSw
    try dsimp only at hSw
    go_simp
    try with_reducible rfl
  try simp only [Act.put, List.setIfInBounds_toArray, List.set_cons_zero, List.set_cons_succ]
  refine wpAnyH_take (i := 1) (oi := { dst := some 43, op := Go.Op.binOp Go.BinOp.geq 3 (Go.Operand.tmp 42) (Go.Operand.const (Go.Value.int Go.IntKind.i64 0)) 3, type := 4, pos := "outright.go:163", after := #[{ on := 0, ground := Go.Ground.data }], guard := none }) (v := ?_) rfl (by kernel_rfl) (by kernel_rfl) (by kernel_rfl) (fun _ _ _ h => h) (Or.inl ⟨by rfl, ?_⟩) (by assumption) ?_
  rotate_left
  · intro w9 hSw
    try dsimp only at hSw
    go_simp
    try with_reducible rfl
  try simp only [Act.put, List.setIfInBounds_toArray, List.set_cons_zero, List.set_cons_succ]
  refine wpAnyH_take (i := 2) (oi := { dst := some 44, op := Go.Op.move (Go.Operand.tmp 43), type := 4, pos := "outright.go:163", after := #[{ on := 1, ground := Go.Ground.data }], guard := none }) (v := ?_) rfl (by kernel_rfl) (by kernel_rfl) (by kernel_rfl) (fun _ _ _ h => h) (Or.inl ⟨by rfl, ?_⟩) (by assumption) ?_
  rotate_left
  · intro w9 hSw
    try dsimp only at hSw
    go_simp
    try with_reducible rfl
  try simp only [Act.put, List.setIfInBounds_toArray, List.set_cons_zero, List.set_cons_succ]
  refine wpAnyH_take (i := 3) (oi := { dst := some 45, op := Go.Op.move (Go.Operand.tmp 9), type := 3, pos := "outright.go:163", after := #[{ on := 2, ground := Go.Ground.guard }], guard := some (2, true) }) (v := ?_) rfl (by kernel_rfl) (by kernel_rfl) (by kernel_rfl) (fun _ _ _ h => h) (Or.inl ⟨by rfl, ?_⟩) (by assumption) ?_
  rotate_left
  · intro w9 hSw
    try dsimp only at hSw
    go_simp
    try with_reducible rfl
  try simp only [Act.put, List.setIfInBounds_toArray, List.set_cons_zero, List.set_cons_succ]
  refine wpAnyH_take (i := 4) (oi := { dst := some 46, op := Go.Op.binOp Go.BinOp.lss 3 (Go.Operand.tmp 45) (Go.Operand.const (Go.Value.int Go.IntKind.i64 2)) 3, type := 4, pos := "outright.go:163", after := #[{ on := 3, ground := Go.Ground.data }, { on := 2, ground := Go.Ground.guard }], guard := some (2, true) }) (v := ?_) rfl (by kernel_rfl) (by kernel_rfl) (by kernel_rfl) (fun _ _ _ h => h) (Or.inl ⟨by rfl, ?_⟩) (by assumption) ?_
  rotate_left
  · intro w9 hSw
    try dsimp only at hSw
    go_simp
    try with_reducible rfl
  try simp only [Act.put, List.setIfInBounds_toArray, List.set_cons_zero, List.set_cons_succ]
  refine wpAnyH_take (i := 5) (oi := { dst := some 47, op := Go.Op.pick (Go.Operand.tmp 44) (Go.Operand.tmp 46) (Go.Operand.const (Go.Value.bool false)), type := 4, pos := "outright.go:163", after := #[{ on := 2, ground := Go.Ground.data }, { on := 4, ground := Go.Ground.data }], guard := none }) (v := ?_) rfl (by kernel_rfl) (by kernel_rfl) (by kernel_rfl) (fun _ _ _ h => h) (Or.inl ⟨by rfl, ?_⟩) (by assumption) ?_
  rotate_left
  · intro w9 hSw
    try dsimp only at hSw
    go_simp
    try with_reducible rfl
  try simp only [Act.put, List.setIfInBounds_toArray, List.set_cons_zero, List.set_cons_succ]
  refine wpAnyH_take (i := 6) (oi := { dst := some 48, op := Go.Op.move (Go.Operand.tmp 47), type := 4, pos := "outright.go:163", after := #[{ on := 5, ground := Go.Ground.data }, { on := 2, ground := Go.Ground.chain }], guard := none }) (v := ?_) rfl (by kernel_rfl) (by kernel_rfl) (by kernel_rfl) (fun _ _ _ h => h) (Or.inl ⟨by rfl, ?_⟩) (by assumption) ?_
  rotate_left
  · intro w9 hSw
    try dsimp only at hSw
    go_simp
    try with_reducible rfl
  try simp only [Act.put, List.setIfInBounds_toArray, List.set_cons_zero, List.set_cons_succ]
  refine wpAnyH_take (i := 7) (oi := { dst := some 49, op := Go.Op.move (Go.Operand.tmp 10), type := 3, pos := "outright.go:163", after := #[{ on := 6, ground := Go.Ground.guard }], guard := some (6, true) }) (v := ?_) rfl (by kernel_rfl) (by kernel_rfl) (by kernel_rfl) (fun _ _ _ h => h) (Or.inl ⟨by rfl, ?_⟩) (by assumption) ?_
  rotate_left
  · intro w9 hSw
    try dsimp only at hSw
    go_simp
    try with_reducible rfl
  try simp only [Act.put, List.setIfInBounds_toArray, List.set_cons_zero, List.set_cons_succ]
  refine wpAnyH_take (i := 8) (oi := { dst := some 50, op := Go.Op.move (Go.Operand.tmp 9), type := 3, pos := "outright.go:163", after := #[{ on := 6, ground := Go.Ground.guard }], guard := some (6, true) }) (v := ?_) rfl (by kernel_rfl) (by kernel_rfl) (by kernel_rfl) (fun _ _ _ h => h) (Or.inl ⟨by rfl, ?_⟩) (by assumption) ?_
  rotate_left
  · intro w9 hSw
    try dsimp only at hSw
    go_simp
    try with_reducible rfl
  try simp only [Act.put, List.setIfInBounds_toArray, List.set_cons_zero, List.set_cons_succ]
  refine wpAnyH_take (i := 9) (oi := { dst := some 51, op := Go.Op.binOp Go.BinOp.neq 3 (Go.Operand.tmp 49) (Go.Operand.tmp 50) 3, type := 4, pos := "outright.go:163", after := #[{ on := 7, ground := Go.Ground.data }, { on := 8, ground := Go.Ground.data }, { on := 6, ground := Go.Ground.guard }], guard := some (6, true) }) (v := ?_) rfl (by kernel_rfl) (by kernel_rfl) (by kernel_rfl) (fun _ _ _ h => h) (Or.inl ⟨by rfl, ?_⟩) (by assumption) ?_
  rotate_left
  · intro w9 hSw
    try dsimp only at hSw
    go_simp
    try with_reducible rfl
  try simp only [Act.put, List.setIfInBounds_toArray, List.set_cons_zero, List.set_cons_succ]
  refine wpAnyH_take (i := 10) (oi := { dst := some 52, op := Go.Op.pick (Go.Operand.tmp 48) (Go.Operand.tmp 51) (Go.Operand.const (Go.Value.bool false)), type := 4, pos := "outright.go:163", after := #[{ on := 6, ground := Go.Ground.data }, { on := 9, ground := Go.Ground.data }], guard := none }) (v := ?_) rfl (by kernel_rfl) (by kernel_rfl) (by kernel_rfl) (fun _ _ _ h => h) (Or.inl ⟨by rfl, ?_⟩) (by assumption) ?_
  rotate_left
  · intro w9 hSw
    try dsimp only at hSw
    go_simp
    try with_reducible rfl
  try simp only [Act.put, List.setIfInBounds_toArray, List.set_cons_zero, List.set_cons_succ]
  refine wpAnyH_take (i := 11) (oi := { dst := some 53, op := Go.Op.move (Go.Operand.tmp 52), type := 4, pos := "outright.go:163", after := #[{ on := 10, ground := Go.Ground.data }, { on := 6, ground := Go.Ground.chain }], guard := none }) (v := ?_) rfl (by kernel_rfl) (by kernel_rfl) (by kernel_rfl) (fun _ _ _ h => h) (Or.inl ⟨by rfl, ?_⟩) (by assumption) ?_
  rotate_left
  · intro w9 hSw
    try dsimp only at hSw
    go_simp
    try with_reducible rfl
  try simp only [Act.put, List.setIfInBounds_toArray, List.set_cons_zero, List.set_cons_succ]
  refine wpAnyH_take (i := 12) (oi := { dst := some 54, op := Go.Op.move (Go.Operand.tmp 9), type := 3, pos := "outright.go:163", after := #[{ on := 11, ground := Go.Ground.guard }], guard := some (11, true) }) (v := ?_) rfl (by kernel_rfl) (by kernel_rfl) (by kernel_rfl) (fun _ _ _ h => h) (Or.inl ⟨by rfl, ?_⟩) (by assumption) ?_
  rotate_left
  · intro w9 hSw
    try dsimp only at hSw
    go_simp
    try with_reducible rfl
  try simp only [Act.put, List.setIfInBounds_toArray, List.set_cons_zero, List.set_cons_succ]
  refine wpAnyH_take (i := 13) (oi := { dst := some 55, op := Go.Op.indexAddr 34 (Go.Operand.tmp 4) (Go.Operand.tmp 54), type := 0, pos := "outright.go:163", after := #[{ on := 12, ground := Go.Ground.data }, { on := 11, ground := Go.Ground.guard }], guard := some (11, true) }) (v := ?_) rfl (by kernel_rfl) (by kernel_rfl) (by kernel_rfl) (fun _ _ _ h => h) (Or.inl ⟨by rfl, ?_⟩) (by assumption) ?_
  rotate_left
  · intro w9 hSw
    try dsimp only at hSw
    go_simp
    try with_reducible rfl
  try simp only [Act.put, List.setIfInBounds_toArray, List.set_cons_zero, List.set_cons_succ]
  refine wpAnyH_take (i := 14) (oi := { dst := some 56, op := Go.Op.fieldAddr 33 (Go.Operand.tmp 55) 0, type := 0, pos := "outright.go:163", after := #[{ on := 13, ground := Go.Ground.data }, { on := 11, ground := Go.Ground.guard }], guard := some (11, true) }) (v := ?_) rfl (by kernel_rfl) (by kernel_rfl) (by kernel_rfl) (fun _ _ _ h => h) (Or.inl ⟨by rfl, ?_⟩) (by assumption) ?_
  rotate_left
  · intro w9 hSw
    try dsimp only at hSw
    go_simp
    try with_reducible rfl
  try simp only [Act.put, List.setIfInBounds_toArray, List.set_cons_zero, List.set_cons_succ]
  refine wpAnyH_take (i := 15) (oi := { dst := some 57, op := Go.Op.load 5 (Go.Operand.tmp 56), type := 5, pos := "outright.go:163", after := #[{ on := 14, ground := Go.Ground.data }, { on := 11, ground := Go.Ground.guard }], guard := some (11, true) }) (v := ?_) rfl (by kernel_rfl) (by kernel_rfl) (by kernel_rfl) (fun _ _ _ h => h) (Or.inl ⟨by rfl, ?_⟩) (by assumption) ?_
  rotate_left
  · intro w9 hSw
    try dsimp only at hSw
    go_simp
    try with_reducible rfl
  try simp only [Act.put, List.setIfInBounds_toArray, List.set_cons_zero, List.set_cons_succ]
  refine wpAnyH_take (i := 16) (oi := { dst := some 58, op := Go.Op.binOp Go.BinOp.eql 5 (Go.Operand.tmp 57) (Go.Operand.const (Go.Value.int Go.IntKind.u8 1)) 5, type := 4, pos := "outright.go:163", after := #[{ on := 15, ground := Go.Ground.data }, { on := 11, ground := Go.Ground.guard }], guard := some (11, true) }) (v := ?_) rfl (by kernel_rfl) (by kernel_rfl) (by kernel_rfl) (fun _ _ _ h => h) (Or.inl ⟨by rfl, ?_⟩) (by assumption) ?_
  rotate_left
  · intro w9 hSw
    try dsimp only at hSw
    go_simp
    try with_reducible rfl
  try simp only [Act.put, List.setIfInBounds_toArray, List.set_cons_zero, List.set_cons_succ]
  refine wpAnyH_take (i := 17) (oi := { dst := some 59, op := Go.Op.pick (Go.Operand.tmp 53) (Go.Operand.tmp 58) (Go.Operand.const (Go.Value.bool false)), type := 4, pos := "outright.go:163", after := #[{ on := 11, ground := Go.Ground.data }, { on := 16, ground := Go.Ground.data }], guard := none }) (v := ?_) rfl (by kernel_rfl) (by kernel_rfl) (by kernel_rfl) (fun _ _ _ h => h) (Or.inl ⟨by rfl, ?_⟩) (by assumption) ?_
  rotate_left
  · intro w9 hSw
    try dsimp only at hSw
    go_simp
    try with_reducible rfl
  try simp only [Act.put, List.setIfInBounds_toArray, List.set_cons_zero, List.set_cons_succ]
  refine wpAnyH_take (i := 18) (oi := { dst := some 60, op := Go.Op.move (Go.Operand.tmp 59), type := 4, pos := "outright.go:163", after := #[{ on := 17, ground := Go.Ground.data }, { on := 11, ground := Go.Ground.chain }], guard := none }) (v := ?_) rfl (by kernel_rfl) (by kernel_rfl) (by kernel_rfl) (fun _ _ _ h => h) (Or.inl ⟨by rfl, ?_⟩) (by assumption) ?_
  rotate_left
  · intro w9 hSw
    try dsimp only at hSw
    go_simp
    try with_reducible rfl
  try simp only [Act.put, List.setIfInBounds_toArray, List.set_cons_zero, List.set_cons_succ]
  refine wpAnyH_take (i := 19) (oi := { dst := some 61, op := Go.Op.move (Go.Operand.tmp 9), type := 3, pos := "outright.go:163", after := #[{ on := 18, ground := Go.Ground.guard }], guard := some (18, true) }) (v := ?_) rfl (by kernel_rfl) (by kernel_rfl) (by kernel_rfl) (fun _ _ _ h => h) (Or.inl ⟨by rfl, ?_⟩) (by assumption) ?_
  rotate_left
  · intro w9 hSw
    try dsimp only at hSw
    go_simp
    try with_reducible rfl
  try simp only [Act.put, List.setIfInBounds_toArray, List.set_cons_zero, List.set_cons_succ]
  refine wpAnyH_take (i := 20) (oi := { dst := some 62, op := Go.Op.indexAddr 34 (Go.Operand.tmp 4) (Go.Operand.tmp 61), type := 0, pos := "outright.go:163", after := #[{ on := 19, ground := Go.Ground.data }, { on := 18, ground := Go.Ground.guard }], guard := some (18, true) }) (v := ?_) rfl (by kernel_rfl) (by kernel_rfl) (by kernel_rfl) (fun _ _ _ h => h) (Or.inl ⟨by rfl, ?_⟩) (by assumption) ?_
  rotate_left
  · intro w9 hSw
    try dsimp only at hSw
    go_simp
    try with_reducible rfl
  try simp only [Act.put, List.setIfInBounds_toArray, List.set_cons_zero, List.set_cons_succ]
  refine wpAnyH_take (i := 21) (oi := { dst := some 63, op := Go.Op.fieldAddr 33 (Go.Operand.tmp 62) 1, type := 0, pos := "outright.go:163", after := #[{ on := 20, ground := Go.Ground.data }, { on := 18, ground := Go.Ground.guard }], guard := some (18, true) }) (v := ?_) rfl (by kernel_rfl) (by kernel_rfl) (by kernel_rfl) (fun _ _ _ h => h) (Or.inl ⟨by rfl, ?_⟩) (by assumption) ?_
  rotate_left
  · intro w9 hSw
    try dsimp only at hSw
    go_simp
    try with_reducible rfl
  try simp only [Act.put, List.setIfInBounds_toArray, List.set_cons_zero, List.set_cons_succ]
  refine wpAnyH_take (i := 22) (oi := { dst := some 64, op := Go.Op.load 3 (Go.Operand.tmp 63), type := 3, pos := "outright.go:163", after := #[{ on := 21, ground := Go.Ground.data }, { on := 18, ground := Go.Ground.guard }], guard := some (18, true) }) (v := ?_) rfl (by kernel_rfl) (by kernel_rfl) (by kernel_rfl) (fun _ _ _ h => h) (Or.inl ⟨by rfl, ?_⟩) (by assumption) ?_
  rotate_left
  · intro w9 hSw
    try dsimp only at hSw
    go_simp
    try with_reducible rfl
  try simp only [Act.put, List.setIfInBounds_toArray, List.set_cons_zero, List.set_cons_succ]
  refine wpAnyH_take (i := 23) (oi := { dst := some 65, op := Go.Op.move (Go.Operand.tmp 2), type := 3, pos := "outright.go:163", after := #[{ on := 18, ground := Go.Ground.guard }], guard := some (18, true) }) (v := ?_) rfl (by kernel_rfl) (by kernel_rfl) (by kernel_rfl) (fun _ _ _ h => h) (Or.inl ⟨by rfl, ?_⟩) (by assumption) ?_
  rotate_left
  · intro w9 hSw
    try dsimp only at hSw
    go_simp
    try with_reducible rfl
  try simp only [Act.put, List.setIfInBounds_toArray, List.set_cons_zero, List.set_cons_succ]
  refine wpAnyH_take (i := 24) (oi := { dst := some 66, op := Go.Op.binOp Go.BinOp.eql 3 (Go.Operand.tmp 64) (Go.Operand.tmp 65) 3, type := 4, pos := "outright.go:163", after := #[{ on := 22, ground := Go.Ground.data }, { on := 23, ground := Go.Ground.data }, { on := 18, ground := Go.Ground.guard }], guard := some (18, true) }) (v := ?_) rfl (by kernel_rfl) (by kernel_rfl) (by kernel_rfl) (fun _ _ _ h => h) (Or.inl ⟨by rfl, ?_⟩) (by assumption) ?_
  rotate_left
  · intro w9 hSw
    try dsimp only at hSw
    go_simp
    try with_reducible rfl
  try simp only [Act.put, List.setIfInBounds_toArray, List.set_cons_zero, List.set_cons_succ]
  refine wpAnyH_take (i := 25) (oi := { dst := some 67, op := Go.Op.pick (Go.Operand.tmp 60) (Go.Operand.tmp 66) (Go.Operand.const (Go.Value.bool false)), type := 4, pos := "outright.go:163", after := #[{ on := 18, ground := Go.Ground.data }, { on := 24, ground := Go.Ground.data }], guard := none }) (v := ?_) rfl (by kernel_rfl) (by kernel_rfl) (by kernel_rfl) (fun _ _ _ h => h) (Or.inl ⟨by rfl, ?_⟩) (by assumption) ?_
  rotate_left
  · intro w9 hSw
    try dsimp only at hSw
    go_simp
    try with_reducible rfl
  try simp only [Act.put, List.setIfInBounds_toArray, List.set_cons_zero, List.set_cons_succ]
  refine wpAnyH_take (i := 26) (oi := { dst := some 68, op := Go.Op.move (Go.Operand.tmp 67), type := 4, pos := "outright.go:163", after := #[{ on := 25, ground := Go.Ground.data }, { on := 18, ground := Go.Ground.chain }], guard := none }) (v := ?_) rfl (by kernel_rfl) (by kernel_rfl) (by kernel_rfl) (fun _ _ _ h => h) (Or.inl ⟨by rfl, ?_⟩) (by assumption) ?_
  rotate_left
  · intro w9 hSw
    try dsimp only at hSw
    go_simp
    try with_reducible rfl
  try simp only [Act.put, List.setIfInBounds_toArray, List.set_cons_zero, List.set_cons_succ]
  refine wpAnyH_take (i := 27) (oi := { dst := some 69, op := Go.Op.fieldAddr 37 (Go.Operand.tmp 8) 2, type := 0, pos := "outright.go:163", after := #[{ on := 26, ground := Go.Ground.guard }], guard := some (26, true) }) (v := ?_) rfl (by kernel_rfl) (by kernel_rfl) (by kernel_rfl) (fun _ _ _ h => h) (Or.inl ⟨by rfl, ?_⟩) (by assumption) ?_
  rotate_left
  · intro w9 hSw
    try dsimp only at hSw
    go_simp
    try with_reducible rfl
  try simp only [Act.put, List.setIfInBounds_toArray, List.set_cons_zero, List.set_cons_succ]
  refine wpAnyH_take (i := 28) (oi := { dst := some 70, op := Go.Op.load 25 (Go.Operand.tmp 69), type := 25, pos := "outright.go:163", after := #[{ on := 27, ground := Go.Ground.data }, { on := 26, ground := Go.Ground.guard }], guard := some (26, true) }) (v := ?_) rfl (by kernel_rfl) (by kernel_rfl) (by kernel_rfl) (fun _ _ _ h => h) (Or.inl ⟨by rfl, ?_⟩) (by assumption) ?_
  rotate_left
  · intro w9 hSw
    try dsimp only at hSw
    go_simp
    try with_reducible rfl
  try simp only [Act.put, List.setIfInBounds_toArray, List.set_cons_zero, List.set_cons_succ]
  refine wpAnyH_take (i := 29) (oi := { dst := some 71, op := Go.Op.move (Go.Operand.tmp 9), type := 3, pos := "outright.go:163", after := #[{ on := 26, ground := Go.Ground.guard }], guard := some (26, true) }) (v := ?_) rfl (by kernel_rfl) (by kernel_rfl) (by kernel_rfl) (fun _ _ _ h => h) (Or.inl ⟨by rfl, ?_⟩) (by assumption) ?_
  rotate_left
  · intro w9 hSw
    try dsimp only at hSw
    go_simp
    try with_reducible rfl
  try simp only [Act.put, List.setIfInBounds_toArray, List.set_cons_zero, List.set_cons_succ]
  refine wpAnyH_take (i := 30) (oi := { dst := some 72, op := Go.Op.indexAddr 34 (Go.Operand.tmp 4) (Go.Operand.tmp 71), type := 0, pos := "outright.go:163", after := #[{ on := 29, ground := Go.Ground.data }, { on := 26, ground := Go.Ground.guard }], guard := some (26, true) }) (v := ?_) rfl (by kernel_rfl) (by kernel_rfl) (by kernel_rfl) (fun _ _ _ h => h) (Or.inl ⟨by rfl, ?_⟩) (by assumption) ?_
  rotate_left
  · intro w9 hSw
    try dsimp only at hSw
    go_simp
    try with_reducible rfl
  try simp only [Act.put, List.setIfInBounds_toArray, List.set_cons_zero, List.set_cons_succ]
  refine wpAnyH_take (i := 31) (oi := { dst := some 73, op := Go.Op.fieldAddr 33 (Go.Operand.tmp 72) 2, type := 0, pos := "outright.go:163", after := #[{ on := 30, ground := Go.Ground.data }, { on := 26, ground := Go.Ground.guard }], guard := some (26, true) }) (v := ?_) rfl (by kernel_rfl) (by kernel_rfl) (by kernel_rfl) (fun _ _ _ h => h) (Or.inl ⟨by rfl, ?_⟩) (by assumption) ?_
  rotate_left
  · intro w9 hSw
    try dsimp only at hSw
    go_simp
    try with_reducible rfl
  try simp only [Act.put, List.setIfInBounds_toArray, List.set_cons_zero, List.set_cons_succ]
  refine wpAnyH_take (i := 32) (oi := { dst := some 74, op := Go.Op.load 25 (Go.Operand.tmp 73), type := 25, pos := "outright.go:163", after := #[{ on := 31, ground := Go.Ground.data }, { on := 26, ground := Go.Ground.guard }], guard := some (26, true) }) (v := ?_) rfl (by kernel_rfl) (by kernel_rfl) (by kernel_rfl) (fun _ _ _ h => h) (Or.inl ⟨by rfl, ?_⟩) (by assumption) ?_
  rotate_left
  · intro w9 hSw
    try dsimp only at hSw
    go_simp
    try with_reducible rfl
  try simp only [Act.put, List.setIfInBounds_toArray, List.set_cons_zero, List.set_cons_succ]
  refine wpAnyH_take (i := 33) (oi := { dst := some 75, op := Go.Op.binOp Go.BinOp.eql 25 (Go.Operand.tmp 70) (Go.Operand.tmp 74) 25, type := 4, pos := "outright.go:163", after := #[{ on := 28, ground := Go.Ground.data }, { on := 32, ground := Go.Ground.data }, { on := 26, ground := Go.Ground.guard }], guard := some (26, true) }) (v := ?_) rfl (by kernel_rfl) (by kernel_rfl) (by kernel_rfl) (fun _ _ _ h => h) (Or.inl ⟨by rfl, ?_⟩) (by assumption) ?_
  rotate_left
  · intro w9 hSw
    try dsimp only at hSw
    go_simp
    try with_reducible rfl
  try simp only [Act.put, List.setIfInBounds_toArray, List.set_cons_zero, List.set_cons_succ]
  refine wpAnyH_take (i := 34) (oi := { dst := some 76, op := Go.Op.pick (Go.Operand.tmp 68) (Go.Operand.tmp 75) (Go.Operand.const (Go.Value.bool false)), type := 4, pos := "outright.go:163", after := #[{ on := 26, ground := Go.Ground.data }, { on := 33, ground := Go.Ground.data }], guard := none }) (v := ?_) rfl (by kernel_rfl) (by kernel_rfl) (by kernel_rfl) (fun _ _ _ h => h) (Or.inl ⟨by rfl, ?_⟩) (by assumption) ?_
  rotate_left
  · intro w9 hSw
    try dsimp only at hSw
    go_simp
    try with_reducible rfl
  try simp only [Act.put, List.setIfInBounds_toArray, List.set_cons_zero, List.set_cons_succ]
  refine wpAnyH_take (i := 35) (oi := { dst := some 77, op := Go.Op.move (Go.Operand.tmp 76), type := 4, pos := "outright.go:163", after := #[{ on := 34, ground := Go.Ground.data }, { on := 26, ground := Go.Ground.chain }], guard := none }) (v := ?_) rfl (by kernel_rfl) (by kernel_rfl) (by kernel_rfl) (fun _ _ _ h => h) (Or.inl ⟨by rfl, ?_⟩) (by assumption) ?_
  rotate_left
  · intro w9 hSw
    try dsimp only at hSw
    go_simp
    try with_reducible rfl
  try simp only [Act.put, List.setIfInBounds_toArray, List.set_cons_zero, List.set_cons_succ]
  refine wpAnyH_take (i := 36) (oi := { dst := some 78, op := Go.Op.fieldAddr 37 (Go.Operand.tmp 8) 3, type := 0, pos := "outright.go:163", after := #[{ on := 35, ground := Go.Ground.guard }], guard := some (35, true) }) (v := ?_) rfl (by kernel_rfl) (by kernel_rfl) (by kernel_rfl) (fun _ _ _ h => h) (Or.inl ⟨by rfl, ?_⟩) (by assumption) ?_
  rotate_left
  · intro w9 hSw
    try dsimp only at hSw
    go_simp
    try with_reducible rfl
  try simp only [Act.put, List.setIfInBounds_toArray, List.set_cons_zero, List.set_cons_succ]
  refine wpAnyH_take (i := 37) (oi := { dst := some 79, op := Go.Op.load 31 (Go.Operand.tmp 78), type := 31, pos := "outright.go:163", after := #[{ on := 36, ground := Go.Ground.data }, { on := 35, ground := Go.Ground.guard }], guard := some (35, true) }) (v := ?_) rfl (by kernel_rfl) (by kernel_rfl) (by kernel_rfl) (fun _ _ _ h => h) (Or.inl ⟨by rfl, ?_⟩) (by assumption) ?_
  rotate_left
  · intro w9 hSw
    try dsimp only at hSw
    go_simp
    try with_reducible rfl
  try simp only [Act.put, List.setIfInBounds_toArray, List.set_cons_zero, List.set_cons_succ]
  refine wpAnyH_take (i := 38) (oi := { dst := some 80, op := Go.Op.move (Go.Operand.tmp 9), type := 3, pos := "outright.go:163", after := #[{ on := 35, ground := Go.Ground.guard }], guard := some (35, true) }) (v := ?_) rfl (by kernel_rfl) (by kernel_rfl) (by kernel_rfl) (fun _ _ _ h => h) (Or.inl ⟨by rfl, ?_⟩) (by assumption) ?_
  rotate_left
  · intro w9 hSw
    try dsimp only at hSw
    go_simp
    try with_reducible rfl
  try simp only [Act.put, List.setIfInBounds_toArray, List.set_cons_zero, List.set_cons_succ]
  refine wpAnyH_take (i := 39) (oi := { dst := some 81, op := Go.Op.indexAddr 34 (Go.Operand.tmp 4) (Go.Operand.tmp 80), type := 0, pos := "outright.go:163", after := #[{ on := 38, ground := Go.Ground.data }, { on := 35, ground := Go.Ground.guard }], guard := some (35, true) }) (v := ?_) rfl (by kernel_rfl) (by kernel_rfl) (by kernel_rfl) (fun _ _ _ h => h) (Or.inl ⟨by rfl, ?_⟩) (by assumption) ?_
  rotate_left
  · intro w9 hSw
    try dsimp only at hSw
    go_simp
    try with_reducible rfl
  try simp only [Act.put, List.setIfInBounds_toArray, List.set_cons_zero, List.set_cons_succ]
  refine wpAnyH_take (i := 40) (oi := { dst := some 82, op := Go.Op.fieldAddr 33 (Go.Operand.tmp 81) 3, type := 0, pos := "outright.go:163", after := #[{ on := 39, ground := Go.Ground.data }, { on := 35, ground := Go.Ground.guard }], guard := some (35, true) }) (v := ?_) rfl (by kernel_rfl) (by kernel_rfl) (by kernel_rfl) (fun _ _ _ h => h) (Or.inl ⟨by rfl, ?_⟩) (by assumption) ?_
  rotate_left
  · intro w9 hSw
    try dsimp only at hSw
    go_simp
    try with_reducible rfl
  try simp only [Act.put, List.setIfInBounds_toArray, List.set_cons_zero, List.set_cons_succ]
  refine wpAnyH_take (i := 41) (oi := { dst := some 83, op := Go.Op.load 31 (Go.Operand.tmp 82), type := 31, pos := "outright.go:163", after := #[{ on := 40, ground := Go.Ground.data }, { on := 35, ground := Go.Ground.guard }], guard := some (35, true) }) (v := ?_) rfl (by kernel_rfl) (by kernel_rfl) (by kernel_rfl) (fun _ _ _ h => h) (Or.inl ⟨by rfl, ?_⟩) (by assumption) ?_
  rotate_left
  · intro w9 hSw
    try dsimp only at hSw
    go_simp
    try with_reducible rfl
  try simp only [Act.put, List.setIfInBounds_toArray, List.set_cons_zero, List.set_cons_succ]
  refine wpAnyH_take (i := 42) (oi := { dst := some 84, op := Go.Op.binOp Go.BinOp.eql 31 (Go.Operand.tmp 79) (Go.Operand.tmp 83) 31, type := 4, pos := "outright.go:163", after := #[{ on := 37, ground := Go.Ground.data }, { on := 41, ground := Go.Ground.data }, { on := 35, ground := Go.Ground.guard }], guard := some (35, true) }) (v := ?_) rfl (by kernel_rfl) (by kernel_rfl) (by kernel_rfl) (fun _ _ _ h => h) (Or.inl ⟨by rfl, ?_⟩) (by assumption) ?_
  rotate_left
  · intro w9 hSw
    try dsimp only at hSw
    go_simp
    try with_reducible rfl
  try simp only [Act.put, List.setIfInBounds_toArray, List.set_cons_zero, List.set_cons_succ]
  refine wpAnyH_take (i := 43) (oi := { dst := some 85, op := Go.Op.pick (Go.Operand.tmp 77) (Go.Operand.tmp 84) (Go.Operand.const (Go.Value.bool false)), type := 4, pos := "outright.go:163", after := #[{ on := 35, ground := Go.Ground.data }, { on := 42, ground := Go.Ground.data }], guard := none }) (v := ?_) rfl (by kernel_rfl) (by kernel_rfl) (by kernel_rfl) (fun _ _ _ h => h) (Or.inl ⟨by rfl, ?_⟩) (by assumption) ?_
  rotate_left
  · intro w9 hSw
    try dsimp only at hSw
    go_simp
    try with_reducible rfl
  try simp only [Act.put, List.setIfInBounds_toArray, List.set_cons_zero, List.set_cons_succ]
  refine wpAnyH_take (i := 44) (oi := { dst := some 6, op := Go.Op.assign (Go.Operand.tmp 85), type := 4, pos := "outright.go:163", after := #[{ on := 43, ground := Go.Ground.data }, { on := 35, ground := Go.Ground.chain }, { on := 0, ground := Go.Ground.phase }, { on := 1, ground := Go.Ground.phase }, { on := 2, ground := Go.Ground.phase }, { on := 3, ground := Go.Ground.phase }, { on := 4, ground := Go.Ground.phase }, { on := 5, ground := Go.Ground.phase }, { on := 6, ground := Go.Ground.phase }, { on := 7, ground := Go.Ground.phase }, { on := 8, ground := Go.Ground.phase }, { on := 9, ground := Go.Ground.phase }, { on := 10, ground := Go.Ground.phase }, { on := 11, ground := Go.Ground.phase }, { on := 12, ground := Go.Ground.phase }, { on := 13, ground := Go.Ground.phase }, { on := 14, ground := Go.Ground.phase }, { on := 15, ground := Go.Ground.phase }, { on := 16, ground := Go.Ground.phase }, { on := 17, ground := Go.Ground.phase }, { on := 18, ground := Go.Ground.phase }, { on := 19, ground := Go.Ground.phase }, { on := 20, ground := Go.Ground.phase }, { on := 21, ground := Go.Ground.phase }, { on := 22, ground := Go.Ground.phase }, { on := 23, ground := Go.Ground.phase }, { on := 24, ground := Go.Ground.phase }, { on := 25, ground := Go.Ground.phase }, { on := 26, ground := Go.Ground.phase }, { on := 27, ground := Go.Ground.phase }, { on := 28, ground := Go.Ground.phase }, { on := 29, ground := Go.Ground.phase }, { on := 30, ground := Go.Ground.phase }, { on := 31, ground := Go.Ground.phase }, { on := 32, ground := Go.Ground.phase }, { on := 33, ground := Go.Ground.phase }, { on := 34, ground := Go.Ground.phase }, { on := 35, ground := Go.Ground.phase }, { on := 36, ground := Go.Ground.phase }, { on := 37, ground := Go.Ground.phase }, { on := 38, ground := Go.Ground.phase }, { on := 39, ground := Go.Ground.phase }, { on := 40, ground := Go.Ground.phase }, { on := 41, ground := Go.Ground.phase }, { on := 42, ground := Go.Ground.phase }, { on := 43, ground := Go.Ground.phase }], guard := none }) (v := ?_) rfl (by kernel_rfl) (by kernel_rfl) (by kernel_rfl) (fun _ _ _ h => h) (Or.inl ⟨by rfl, ?_⟩) (by assumption) ?_
  rotate_left
  · intro w9 hSw
    try dsimp only at hSw
    go_simp
    try with_reducible rfl
  try simp only [Act.put, List.setIfInBounds_toArray, List.set_cons_zero, List.set_cons_succ]
  refine wpAnyH_done (by kernel_rfl) ?_ _
  clear hHeld
  go_wp2_with fail
  go_ret
  exact ⟨rfl, HP.out.2.2.drew⟩

set_option maxRecDepth 100000 in
theorem where_long (p : Rec) (f0 f1 : Cop) (i : Int) (w : World) (hgr : grB p f0 f1 = true) :
    Calls Try.prog 4 #[.agg #[.int .u8 (p.st : Int), .int .i64 p.ix, .int .i64 p.bx, .int .i64 p.yb, .int .i64 p.wh], .agg #[.int .u8 (f0.st : Int), .int .i64 f0.ix, .int .i64 f0.bx, .int .i64 f0.yb, .int .u8 (f0.e.k : Int), .int .i64 f0.e.cl, .int .i64 f0.e.sq, .int .u8 (f0.e.ok : Int), .string f0.e.key, .string f0.e.old, .string f0.e.val, .int .u8 (f1.st : Int), .int .i64 f1.ix, .int .i64 f1.bx, .int .i64 f1.yb, .int .u8 (f1.e.k : Int), .int .i64 f1.e.cl, .int .i64 f1.e.sq, .int .u8 (f1.e.ok : Int), .string f1.e.key, .string f1.e.old, .string f1.e.val], .int .i64 i] w fun e w' => e = .returned (.bool true) ∧ Ext w w' := by
  have HG := Lib.hid (great_of p f0 f1)
  rw [hgr] at HG
  have HA := Lib.hid awake_of
  have HP := Lib.hid (next_pre w p f0 f1)
  clear hgr
  go_enter Try.func4, Try.ntmps4
  go_upto_region 1 with (fail)
  generalize ((w.alloc (.cells #[.int .u8 (p.st : Int), .int .i64 p.ix, .int .i64 p.bx, .int .i64 p.yb, .int .i64 p.wh] 27)).alloc (.cells #[.int .u8 (f0.st : Int), .int .i64 f0.ix, .int .i64 f0.bx, .int .i64 f0.yb, .int .u8 (f0.e.k : Int), .int .i64 f0.e.cl, .int .i64 f0.e.sq, .int .u8 (f0.e.ok : Int), .string f0.e.key, .string f0.e.old, .string f0.e.val, .int .u8 (f1.st : Int), .int .i64 f1.ix, .int .i64 f1.bx, .int .i64 f1.yb, .int .u8 (f1.e.k : Int), .int .i64 f1.e.cl, .int .i64 f1.e.sq, .int .u8 (f1.e.ok : Int), .string f1.e.key, .string f1.e.old, .string f1.e.val] 34)) = W at *
  generalize w.heap.size + 1 = g1 at *
  generalize hg : w.heap.size = g at *
  have HGG := Lib.hid hg
  clear hg
  go_wp2_with fail
  refine (HA.out W).mono ?_
  rintro e w1 ⟨rfl, hx⟩
  have HP := Lib.hid (⟨HP.out.1.ext hx, HP.out.2.1.ext hx, HP.out.2.2.trans hx⟩ : RecAt w1 g p ∧ Two w1 g1 f0 f1 ∧ Ext w w1)
  clear hx HA
  have q0 := cell_of_row w1 g 0 _ _ _ (HP.out.1)
  have q1 := cell_of_row w1 g 1 _ _ _ (HP.out.1)
  have q2 := cell_of_row w1 g 2 _ _ _ (HP.out.1)
  have q3 := cell_of_row w1 g 3 _ _ _ (HP.out.1)
  have q4 := cell_of_row w1 g 4 _ _ _ (HP.out.1)
  obtain ⟨N, hN, hsz⟩ := size_two
  have hld := load_two hN HP.out.2.1
  have HNN := Lib.hid hN
  clear hN
  go_wp2_with fail
  refine (HG.out w1).mono ?_
  rintro e w2 ⟨rfl, hx⟩
  have HX := Lib.hid (HP.out.2.2.trans hx)
  clear hx
  go_wp2_with fail
  go_ret
  exact ⟨rfl, HX.out⟩
theorem slotWhere_law (p : Rec) (f0 f1 : Cop) (i : Int) (w : World) (_ : p.Wf) (_ : f0.Wf) (_ : f1.Wf) (_ : (Lit.int .i64 i).wf = true) :
    Calls Try.prog 4 #[.agg #[.int .u8 (p.st : Int), .int .i64 p.ix, .int .i64 p.bx, .int .i64 p.yb, .int .i64 p.wh], .agg #[.int .u8 (f0.st : Int), .int .i64 f0.ix, .int .i64 f0.bx, .int .i64 f0.yb, .int .u8 (f0.e.k : Int), .int .i64 f0.e.cl, .int .i64 f0.e.sq, .int .u8 (f0.e.ok : Int), .string f0.e.key, .string f0.e.old, .string f0.e.val, .int .u8 (f1.st : Int), .int .i64 f1.ix, .int .i64 f1.bx, .int .i64 f1.yb, .int .u8 (f1.e.k : Int), .int .i64 f1.e.cl, .int .i64 f1.e.sq, .int .u8 (f1.e.ok : Int), .string f1.e.key, .string f1.e.old, .string f1.e.val], .int .i64 i] w fun e w' => e = .returned (.bool true) ∧ Ext w w' := by
  cases hg : grB p f0 f1 with
  | true => exact where_long p f0 f1 i w hg
  | false =>
    rcases whereL_of (p := p) (f0 := f0) (f1 := f1) (i := i) with h | ⟨h, _⟩ | ⟨h, _⟩
    · exact whereN p f0 f1 i w hg h
    · exact where0 p f0 f1 i w hg h
    · exact where1 p f0 f1 i w hg h
end Go.Proofs.Ytejejadbemkifaa
