/-
  The contract of the statements' own great.
-/
import Derived.Test.YtejejadbemkifaaLGreatA
import Derived.Test.YtejejadbemkifaaLGreatB
namespace Go.Proofs.Ytejejadbemkifaa
open Go Go.RowKit

theorem great_of (p : Rec) (f0 f1 : Cop) (w : World) :
    Calls Try.prog 10 #[.agg #[.int .u8 (p.st : Int), .int .i64 p.ix, .int .i64 p.bx, .int .i64 p.yb, .int .i64 p.wh], .agg #[.int .u8 (f0.st : Int), .int .i64 f0.ix, .int .i64 f0.bx, .int .i64 f0.yb, .int .u8 (f0.e.k : Int), .int .i64 f0.e.cl, .int .i64 f0.e.sq, .int .u8 (f0.e.ok : Int), .string f0.e.key, .string f0.e.old, .string f0.e.val, .int .u8 (f1.st : Int), .int .i64 f1.ix, .int .i64 f1.bx, .int .i64 f1.yb, .int .u8 (f1.e.k : Int), .int .i64 f1.e.cl, .int .i64 f1.e.sq, .int .u8 (f1.e.ok : Int), .string f1.e.key, .string f1.e.old, .string f1.e.val]] w fun e w' => e = .returned (.bool (grB p f0 f1)) ∧ Ext w w' := by
  cases hg : grB p f0 f1 with
  | false => exact great_no p f0 f1 w hg
  | true =>
    unfold grB grC at hg
    simp only [Bool.or_eq_true, decide_eq_true_iff] at hg
    cases h0 : decide (2 < (p.st : Int)) with
    | true => exact great_0 p f0 f1 w  h0
    | false =>
      cases h1 : decide (p.wh < 0) with
      | true => exact great_1 p f0 f1 w h0 h1
      | false =>
        cases h2 : decide (1 < p.wh) with
        | true => exact great_2 p f0 f1 w h0 h1 h2
        | false =>
          cases h3 : decide (2 < (f0.st : Int)) with
          | true => exact great_3 p f0 f1 w h0 h1 h2 h3
          | false =>
            cases h4 : decide (300 < (f0.e.key.size : Int)) with
            | true => exact great_4 p f0 f1 w h0 h1 h2 h3 h4
            | false =>
              cases h5 : decide (300 < (f0.e.old.size : Int)) with
              | true => exact great_5 p f0 f1 w h0 h1 h2 h3 h4 h5
              | false =>
                cases h6 : decide (300 < (f0.e.val.size : Int)) with
                | true => exact great_6 p f0 f1 w h0 h1 h2 h3 h4 h5 h6
                | false =>
                  cases h7 : decide (2 < (f1.st : Int)) with
                  | true => exact great_7 p f0 f1 w h0 h1 h2 h3 h4 h5 h6 h7
                  | false =>
                    cases h8 : decide (300 < (f1.e.key.size : Int)) with
                    | true => exact great_8 p f0 f1 w h0 h1 h2 h3 h4 h5 h6 h7 h8
                    | false =>
                      cases h9 : decide (300 < (f1.e.old.size : Int)) with
                      | true => exact great_9 p f0 f1 w h0 h1 h2 h3 h4 h5 h6 h7 h8 h9
                      | false =>
                        have h10 : decide (300 < (f1.e.val.size : Int)) = true := by
                          simp only [decide_eq_false_iff_not] at h0 h1 h2 h3 h4 h5 h6 h7 h8 h9
                          rw [decide_eq_true_iff]
                          omega
                        exact great_10 p f0 f1 w h0 h1 h2 h3 h4 h5 h6 h7 h8 h9 h10
end Go.Proofs.Ytejejadbemkifaa
