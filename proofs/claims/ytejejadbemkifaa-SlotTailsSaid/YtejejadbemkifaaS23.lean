/-
  The contracts of the statements' own atLeast and great.
  Entries and ballots compared with themselves.
-/
import Derived.Test.YtejejadbemkifaaS03
import Derived.Test.YtejejadbemkifaaS15
namespace Go.Proofs.Ytejejadbemkifaa
set_option maxRecDepth 100000
open Go Go.RowKit

theorem atLeast_of (x y a b : Int) (w : World) : Calls Try.prog 9 #[.agg #[.int .i64 x, .int .i64 y], .agg #[.int .i64 a, .int .i64 b]] w fun e w' => e = .returned (.bool (decide (a < x ∨ (x = a ∧ b ≤ y)))) ∧ Ext w w' := by
  have HE := Lib.hid (((Ext.refl w).alloc (.cells #[.int .i64 x, .int .i64 y] 25)).alloc (.cells #[.int .i64 a, .int .i64 b] 25))
  by_cases h1 : a < x
  · rw [decide_eq_true (show a < x ∨ (x = a ∧ b ≤ y) from .inl h1)]
    have hb : decide (a < x) = true := decide_eq_true h1
    clear h1
    go_enter Try.func9, Try.ntmps9
    go_wp2_with fail
    go_ret
    exact ⟨rfl, HE.out⟩
  · have hb : decide (a < x) = false := decide_eq_false h1
    by_cases h2 : x = a
    · subst h2
      rw [show decide (x < x ∨ (x = x ∧ b ≤ y)) = decide (b ≤ y) from by rw [decide_eq_decide]; omega]
      clear h1
      go_enter Try.func9, Try.ntmps9
      go_wp2_with fail
      go_ret
      exact ⟨rfl, HE.out⟩
    · rw [decide_eq_false (show ¬ (a < x ∨ (x = a ∧ b ≤ y)) from by omega)]
      have hc : (x == a) = false := by rw [beq_eq_false_iff_ne]; exact h2
      clear h1 h2
      go_enter Try.func9, Try.ntmps9
      go_wp2_with fail
      go_ret
      exact ⟨rfl, HE.out⟩
/-- Is a frame's text longer than is gone through, or its state none that there is? -/
def grC (c : Cop) : Bool := decide (2 < c.st) || (decide (300 < c.e.key.size) || (decide (300 < c.e.old.size) || decide (300 < c.e.val.size)))
def grB (p : Rec) (f0 f1 : Cop) : Bool := decide (2 < p.st) || (decide (p.wh < 0) || (decide (1 < p.wh) || (grC f0 || grC f1)))
theorem grB_no {p : Rec} {f0 f1 : Cop} (h : grB p f0 f1 = false) : p.st ≤ 2 ∧ f0.st ≤ 2 ∧ f1.st ≤ 2 ∧ (p.wh = 0 ∨ p.wh = 1) := by
  unfold grB grC at h
  simp only [Bool.or_eq_false_iff, decide_eq_false_iff_not] at h
  omega
theorem great_pre (w : World) (p : Rec) (f0 f1 : Cop) : RecAt ((w.alloc (.cells #[.int .u8 (p.st : Int), .int .i64 p.ix, .int .i64 p.bx, .int .i64 p.yb, .int .i64 p.wh] 27)).alloc (.cells #[.int .u8 (f0.st : Int), .int .i64 f0.ix, .int .i64 f0.bx, .int .i64 f0.yb, .int .u8 (f0.e.k : Int), .int .i64 f0.e.cl, .int .i64 f0.e.sq, .int .u8 (f0.e.ok : Int), .string f0.e.key, .string f0.e.old, .string f0.e.val, .int .u8 (f1.st : Int), .int .i64 f1.ix, .int .i64 f1.bx, .int .i64 f1.yb, .int .u8 (f1.e.k : Int), .int .i64 f1.e.cl, .int .i64 f1.e.sq, .int .u8 (f1.e.ok : Int), .string f1.e.key, .string f1.e.old, .string f1.e.val] 34)) w.heap.size p ∧ Two ((w.alloc (.cells #[.int .u8 (p.st : Int), .int .i64 p.ix, .int .i64 p.bx, .int .i64 p.yb, .int .i64 p.wh] 27)).alloc (.cells #[.int .u8 (f0.st : Int), .int .i64 f0.ix, .int .i64 f0.bx, .int .i64 f0.yb, .int .u8 (f0.e.k : Int), .int .i64 f0.e.cl, .int .i64 f0.e.sq, .int .u8 (f0.e.ok : Int), .string f0.e.key, .string f0.e.old, .string f0.e.val, .int .u8 (f1.st : Int), .int .i64 f1.ix, .int .i64 f1.bx, .int .i64 f1.yb, .int .u8 (f1.e.k : Int), .int .i64 f1.e.cl, .int .i64 f1.e.sq, .int .u8 (f1.e.ok : Int), .string f1.e.key, .string f1.e.old, .string f1.e.val] 34)) (w.heap.size + 1) f0 f1 ∧ Ext w ((w.alloc (.cells #[.int .u8 (p.st : Int), .int .i64 p.ix, .int .i64 p.bx, .int .i64 p.yb, .int .i64 p.wh] 27)).alloc (.cells #[.int .u8 (f0.st : Int), .int .i64 f0.ix, .int .i64 f0.bx, .int .i64 f0.yb, .int .u8 (f0.e.k : Int), .int .i64 f0.e.cl, .int .i64 f0.e.sq, .int .u8 (f0.e.ok : Int), .string f0.e.key, .string f0.e.old, .string f0.e.val, .int .u8 (f1.st : Int), .int .i64 f1.ix, .int .i64 f1.bx, .int .i64 f1.yb, .int .u8 (f1.e.k : Int), .int .i64 f1.e.cl, .int .i64 f1.e.sq, .int .u8 (f1.e.ok : Int), .string f1.e.key, .string f1.e.old, .string f1.e.val] 34)) := next_pre w p f0 f1
set_option maxRecDepth 100000 in
set_option maxHeartbeats 1600000 in
theorem great_no (p : Rec) (f0 f1 : Cop) (w : World) (hg : grB p f0 f1 = false) :
    Calls Try.prog 10 #[.agg #[.int .u8 (p.st : Int), .int .i64 p.ix, .int .i64 p.bx, .int .i64 p.yb, .int .i64 p.wh], .agg #[.int .u8 (f0.st : Int), .int .i64 f0.ix, .int .i64 f0.bx, .int .i64 f0.yb, .int .u8 (f0.e.k : Int), .int .i64 f0.e.cl, .int .i64 f0.e.sq, .int .u8 (f0.e.ok : Int), .string f0.e.key, .string f0.e.old, .string f0.e.val, .int .u8 (f1.st : Int), .int .i64 f1.ix, .int .i64 f1.bx, .int .i64 f1.yb, .int .u8 (f1.e.k : Int), .int .i64 f1.e.cl, .int .i64 f1.e.sq, .int .u8 (f1.e.ok : Int), .string f1.e.key, .string f1.e.old, .string f1.e.val]] w fun e w' => e = .returned (.bool false) ∧ Ext w w' := by
  unfold grB grC at hg
  simp only [Bool.or_eq_false_iff, decide_eq_false_iff_not] at hg
  obtain ⟨a1, a2, a3, ⟨b1, b2, b3, b4⟩, c1, c2, c3, c4⟩ := hg
  have HP := Lib.hid (great_pre w p f0 f1)
  have d1 : decide (2 < (p.st : Int)) = false := decide_eq_false (by omega)
  have d2 : decide (p.wh < 0) = false := decide_eq_false a2
  have d3 : decide (1 < p.wh) = false := decide_eq_false a3
  have d4 : decide (2 < (f0.st : Int)) = false := decide_eq_false (by omega)
  have d5 : decide (300 < (f0.e.key.size : Int)) = false := decide_eq_false (by omega)
  have d6 : decide (300 < (f0.e.old.size : Int)) = false := decide_eq_false (by omega)
  have d7 : decide (300 < (f0.e.val.size : Int)) = false := decide_eq_false (by omega)
  have d8 : decide (2 < (f1.st : Int)) = false := decide_eq_false (by omega)
  have d9 : decide (300 < (f1.e.key.size : Int)) = false := decide_eq_false (by omega)
  have d10 : decide (300 < (f1.e.old.size : Int)) = false := decide_eq_false (by omega)
  have d11 : decide (300 < (f1.e.val.size : Int)) = false := decide_eq_false (by omega)
  clear a1 a2 a3 b1 b2 b3 b4 c1 c2 c3 c4
  go_enter Try.func10, Try.ntmps10
  go_upto_region 1 with (fail)
  generalize ((w.alloc (.cells #[.int .u8 (p.st : Int), .int .i64 p.ix, .int .i64 p.bx, .int .i64 p.yb, .int .i64 p.wh] 27)).alloc (.cells #[.int .u8 (f0.st : Int), .int .i64 f0.ix, .int .i64 f0.bx, .int .i64 f0.yb, .int .u8 (f0.e.k : Int), .int .i64 f0.e.cl, .int .i64 f0.e.sq, .int .u8 (f0.e.ok : Int), .string f0.e.key, .string f0.e.old, .string f0.e.val, .int .u8 (f1.st : Int), .int .i64 f1.ix, .int .i64 f1.bx, .int .i64 f1.yb, .int .u8 (f1.e.k : Int), .int .i64 f1.e.cl, .int .i64 f1.e.sq, .int .u8 (f1.e.ok : Int), .string f1.e.key, .string f1.e.old, .string f1.e.val] 34)) = W at *
  generalize w.heap.size + 1 = g1 at *
  generalize hg : w.heap.size = g at *
  have HG := Lib.hid hg
  clear hg
  have q0 := cell_of_row W g 0 _ _ _ (HP.out.1)
  have q1 := cell_of_row W g 1 _ _ _ (HP.out.1)
  have q2 := cell_of_row W g 2 _ _ _ (HP.out.1)
  have q3 := cell_of_row W g 3 _ _ _ (HP.out.1)
  have q4 := cell_of_row W g 4 _ _ _ (HP.out.1)
  have t0 := cell_of_row W g1 0 _ _ _ (HP.out.2.1)
  have t1 := cell_of_row W g1 1 _ _ _ (HP.out.2.1)
  have t2 := cell_of_row W g1 2 _ _ _ (HP.out.2.1)
  have t3 := cell_of_row W g1 3 _ _ _ (HP.out.2.1)
  have t4 := cell_of_row W g1 4 _ _ _ (HP.out.2.1)
  have t5 := cell_of_row W g1 5 _ _ _ (HP.out.2.1)
  have t6 := cell_of_row W g1 6 _ _ _ (HP.out.2.1)
  have t7 := cell_of_row W g1 7 _ _ _ (HP.out.2.1)
  have t8 := cell_of_row W g1 8 _ _ _ (HP.out.2.1)
  have t9 := cell_of_row W g1 9 _ _ _ (HP.out.2.1)
  have t10 := cell_of_row W g1 10 _ _ _ (HP.out.2.1)
  have t11 := cell_of_row W g1 11 _ _ _ (HP.out.2.1)
  have t12 := cell_of_row W g1 12 _ _ _ (HP.out.2.1)
  have t13 := cell_of_row W g1 13 _ _ _ (HP.out.2.1)
  have t14 := cell_of_row W g1 14 _ _ _ (HP.out.2.1)
  have t15 := cell_of_row W g1 15 _ _ _ (HP.out.2.1)
  have t16 := cell_of_row W g1 16 _ _ _ (HP.out.2.1)
  have t17 := cell_of_row W g1 17 _ _ _ (HP.out.2.1)
  have t18 := cell_of_row W g1 18 _ _ _ (HP.out.2.1)
  have t19 := cell_of_row W g1 19 _ _ _ (HP.out.2.1)
  have t20 := cell_of_row W g1 20 _ _ _ (HP.out.2.1)
  have t21 := cell_of_row W g1 21 _ _ _ (HP.out.2.1)
  go_wp2_with fail
  refine wp_loop_rounds 3 ?_
  rw [rounds_succ]
  go_upto_region 7 with (fail)
  have HX := Lib.hid (HP.out.2.2.alloc (.cells #[.int .u8 (f0.e.ok : Int), .string f0.e.key, .string f0.e.old, .string f0.e.val] 29))
  have HT := Lib.hid (HP.out.2.1.ext ((Ext.refl W).alloc (.cells #[.int .u8 (f0.e.ok : Int), .string f0.e.key, .string f0.e.old, .string f0.e.val] 29)))
  have hO := heap_alloc_new W (.cells #[.int .u8 (f0.e.ok : Int), .string f0.e.key, .string f0.e.old, .string f0.e.val] 29)
  generalize (W.alloc (.cells #[.int .u8 (f0.e.ok : Int), .string f0.e.key, .string f0.e.old, .string f0.e.val] 29)) = W2 at *
  generalize W.heap.size = go0 at *
  clear q0 q1 q2 q3 q4 t0 t1 t2 t3 t4 t5 t6 t7 t8 t9 t10 t11 t12 t13 t14 t15 t16 t17 t18 t19 t20 t21
  have t0 := cell_of_row W2 g1 0 _ _ _ (HT.out)
  have t1 := cell_of_row W2 g1 1 _ _ _ (HT.out)
  have t2 := cell_of_row W2 g1 2 _ _ _ (HT.out)
  have t3 := cell_of_row W2 g1 3 _ _ _ (HT.out)
  have t4 := cell_of_row W2 g1 4 _ _ _ (HT.out)
  have t5 := cell_of_row W2 g1 5 _ _ _ (HT.out)
  have t6 := cell_of_row W2 g1 6 _ _ _ (HT.out)
  have t7 := cell_of_row W2 g1 7 _ _ _ (HT.out)
  have t8 := cell_of_row W2 g1 8 _ _ _ (HT.out)
  have t9 := cell_of_row W2 g1 9 _ _ _ (HT.out)
  have t10 := cell_of_row W2 g1 10 _ _ _ (HT.out)
  have t11 := cell_of_row W2 g1 11 _ _ _ (HT.out)
  have t12 := cell_of_row W2 g1 12 _ _ _ (HT.out)
  have t13 := cell_of_row W2 g1 13 _ _ _ (HT.out)
  have t14 := cell_of_row W2 g1 14 _ _ _ (HT.out)
  have t15 := cell_of_row W2 g1 15 _ _ _ (HT.out)
  have t16 := cell_of_row W2 g1 16 _ _ _ (HT.out)
  have t17 := cell_of_row W2 g1 17 _ _ _ (HT.out)
  have t18 := cell_of_row W2 g1 18 _ _ _ (HT.out)
  have t19 := cell_of_row W2 g1 19 _ _ _ (HT.out)
  have t20 := cell_of_row W2 g1 20 _ _ _ (HT.out)
  have t21 := cell_of_row W2 g1 21 _ _ _ (HT.out)
  have u1 := cell_of_row _ _ 1 _ _ _ hO
  have u2 := cell_of_row _ _ 2 _ _ _ hO
  have u3 := cell_of_row _ _ 3 _ _ _ hO
  clear hO
  go_wp2_with fail
  rw [rounds_succ]
  go_upto_region 7 with (fail)
  have HX := Lib.hid (HX.out.alloc (.cells #[.int .u8 (f1.e.ok : Int), .string f1.e.key, .string f1.e.old, .string f1.e.val] 29))
  have HT := Lib.hid (HT.out.ext ((Ext.refl W2).alloc (.cells #[.int .u8 (f1.e.ok : Int), .string f1.e.key, .string f1.e.old, .string f1.e.val] 29)))
  have hO := heap_alloc_new W2 (.cells #[.int .u8 (f1.e.ok : Int), .string f1.e.key, .string f1.e.old, .string f1.e.val] 29)
  generalize (W2.alloc (.cells #[.int .u8 (f1.e.ok : Int), .string f1.e.key, .string f1.e.old, .string f1.e.val] 29)) = W3 at *
  generalize W2.heap.size = go1 at *
  clear t0 t1 t2 t3 t4 t5 t6 t7 t8 t9 t10 t11 t12 t13 t14 t15 t16 t17 t18 t19 t20 t21 u1 u2 u3
  have t0 := cell_of_row W3 g1 0 _ _ _ (HT.out)
  have t1 := cell_of_row W3 g1 1 _ _ _ (HT.out)
  have t2 := cell_of_row W3 g1 2 _ _ _ (HT.out)
  have t3 := cell_of_row W3 g1 3 _ _ _ (HT.out)
  have t4 := cell_of_row W3 g1 4 _ _ _ (HT.out)
  have t5 := cell_of_row W3 g1 5 _ _ _ (HT.out)
  have t6 := cell_of_row W3 g1 6 _ _ _ (HT.out)
  have t7 := cell_of_row W3 g1 7 _ _ _ (HT.out)
  have t8 := cell_of_row W3 g1 8 _ _ _ (HT.out)
  have t9 := cell_of_row W3 g1 9 _ _ _ (HT.out)
  have t10 := cell_of_row W3 g1 10 _ _ _ (HT.out)
  have t11 := cell_of_row W3 g1 11 _ _ _ (HT.out)
  have t12 := cell_of_row W3 g1 12 _ _ _ (HT.out)
  have t13 := cell_of_row W3 g1 13 _ _ _ (HT.out)
  have t14 := cell_of_row W3 g1 14 _ _ _ (HT.out)
  have t15 := cell_of_row W3 g1 15 _ _ _ (HT.out)
  have t16 := cell_of_row W3 g1 16 _ _ _ (HT.out)
  have t17 := cell_of_row W3 g1 17 _ _ _ (HT.out)
  have t18 := cell_of_row W3 g1 18 _ _ _ (HT.out)
  have t19 := cell_of_row W3 g1 19 _ _ _ (HT.out)
  have t20 := cell_of_row W3 g1 20 _ _ _ (HT.out)
  have t21 := cell_of_row W3 g1 21 _ _ _ (HT.out)
  have u1 := cell_of_row _ _ 1 _ _ _ hO
  have u2 := cell_of_row _ _ 2 _ _ _ hO
  have u3 := cell_of_row _ _ 3 _ _ _ hO
  clear hO
  go_wp2_with fail
  rw [rounds_succ]
  go_wp2_with fail
  go_ret
  exact ⟨rfl, HX.out⟩
end Go.Proofs.Ytejejadbemkifaa

namespace Go.Proofs.Ytejejadbemkifaa
set_option maxRecDepth 100000
open Go Go.RowKit

theorem lent_eql_self (k : Nat) (cl sq : Int) (ok : Nat) (key old val : ByteArray) (w : World) :
    (binOp .eql 31 (.agg #[.int .u8 (k : Int), .int .i64 cl, .int .i64 sq, .int .u8 (ok : Int), .string key, .string old, .string val]) (.agg #[.int .u8 (k : Int), .int .i64 cl, .int .i64 sq, .int .u8 (ok : Int), .string key, .string old, .string val])).run Try.prog w = .ok (.bool true) w := by
  have hf : Try.prog.stoodInHeld 31 = false := by kernel_rfl
  have hu := Try.underlying31
  have hu2 := Try.underlying29
  rw [run_eql_struct, run_equalIn_agg _ _ _ _ _ (by rw [Program.fieldsOf, hu]) hf, Program.fieldsOf, hu]
  simp [Op.eqFields, go_sem]
theorem lbal_eql_self (x y : Int) (w : World) : (binOp .eql 25 (.agg #[.int .i64 x, .int .i64 y]) (.agg #[.int .i64 x, .int .i64 y])).run Try.prog w = .ok (.bool true) w := by
  have hf : Try.prog.stoodInHeld 25 = false := by kernel_rfl
  have hu := Try.underlying25
  rw [run_eql_struct, run_equalIn_agg _ _ _ _ _ (by rw [Program.fieldsOf, hu]) hf, Program.fieldsOf, hu]
  simp [Op.eqFields, go_sem]
theorem lbal_neq_self (x y : Int) (w : World) : (binOp .neq 25 (.agg #[.int .i64 x, .int .i64 y]) (.agg #[.int .i64 x, .int .i64 y])).run Try.prog w = .ok (.bool false) w := by
  have hf : Try.prog.stoodInHeld 25 = false := by kernel_rfl
  have hu := Try.underlying25
  rw [run_neq_struct, run_equalIn_agg _ _ _ _ _ (by rw [Program.fieldsOf, hu]) hf, Program.fieldsOf, hu]
  simp [Op.eqFields, go_sem]

end Go.Proofs.Ytejejadbemkifaa
