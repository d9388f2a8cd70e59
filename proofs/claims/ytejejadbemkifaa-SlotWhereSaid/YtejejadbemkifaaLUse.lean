/-
  The contract of a rule's use, in one form.
-/
import Derived.Test.YtejejadbemkifaaLUse0a
import Derived.Test.YtejejadbemkifaaLUse0b
import Derived.Test.YtejejadbemkifaaLUse1a
import Derived.Test.YtejejadbemkifaaLUse1b
namespace Go.Proofs.Ytejejadbemkifaa
open Go Go.RowKit

theorem use_of (F : Nat) (caps : Array Value) (fi : Int) (hfi : fi = 0 ∨ fi = 1) (x2 x3 x4 x5 x6 x7 x8 x9 x10 x11 x12 x13 : Value) (f0 f1 : Cop) (b0 b1 : Bool) (w : World) (hgo : Enters Try.prog F) (h0 : Asks w F caps f0 b0) (h1 : Asks w F caps f1 b1) :
    Calls Try.prog 14 #[.agg #[.func (.func F) #[] caps, .int .i64 fi, x2, x3, x4, x5, x6, x7, x8, x9, x10, x11, x12, x13], .agg #[.int .u8 (f0.st : Int), .int .i64 f0.ix, .int .i64 f0.bx, .int .i64 f0.yb, .int .u8 (f0.e.k : Int), .int .i64 f0.e.cl, .int .i64 f0.e.sq, .int .u8 (f0.e.ok : Int), .string f0.e.key, .string f0.e.old, .string f0.e.val, .int .u8 (f1.st : Int), .int .i64 f1.ix, .int .i64 f1.bx, .int .i64 f1.yb, .int .u8 (f1.e.k : Int), .int .i64 f1.e.cl, .int .i64 f1.e.sq, .int .u8 (f1.e.ok : Int), .string f1.e.key, .string f1.e.old, .string f1.e.val]] w fun e w' => e = .returned (.int .i64 (useL fi b0 b1 f0 f1)) ∧ Ext w w' := by
  have hv : ∀ a b : Int, a = b → (Ending.returned (Value.int .i64 a)) = .returned (.int .i64 b) := fun a b h => by rw [h]
  rcases hfi with rfl | rfl <;> cases b0 <;> cases b1
  · exact (use0_ff F caps x2 x3 x4 x5 x6 x7 x8 x9 x10 x11 x12 x13 f0 f1 w hgo h0 h1).mono fun e w' ⟨he, hx⟩ => ⟨he.trans (hv _ _ (by unfold useL pickW; simp)), hx⟩
  · exact (use0_ft F caps x2 x3 x4 x5 x6 x7 x8 x9 x10 x11 x12 x13 f0 f1 w hgo h0 h1).mono fun e w' ⟨he, hx⟩ => ⟨he.trans (hv _ _ (by unfold useL pickW; simp)), hx⟩
  · exact (use0_tf F caps x2 x3 x4 x5 x6 x7 x8 x9 x10 x11 x12 x13 f0 f1 w hgo h0 h1).mono fun e w' ⟨he, hx⟩ => ⟨he.trans (hv _ _ (by unfold useL pickW; simp)), hx⟩
  · refine (use0_tt F caps x2 x3 x4 x5 x6 x7 x8 x9 x10 x11 x12 x13 f0 f1 w hgo h0 h1).mono fun e w' ⟨he, hx⟩ => ⟨he.trans (hv _ _ ?_), hx⟩
    by_cases hh : gtL f1.bx f1.yb f0.bx f0.yb
    · have hp := balI_pos.2 hh
      unfold useL pickW
      simp [hh, hp]
    · have hp : ¬ 0 < balI f1.bx f1.yb f0.bx f0.yb := fun h => hh (balI_pos.1 h)
      unfold useL pickW
      simp [hh, hp]
  · exact (use1_ff F caps x2 x3 x4 x5 x6 x7 x8 x9 x10 x11 x12 x13 f0 f1 w hgo h0 h1).mono fun e w' ⟨he, hx⟩ => ⟨he.trans (hv _ _ (by unfold useL pickW; simp)), hx⟩
  · exact (use1_ft F caps x2 x3 x4 x5 x6 x7 x8 x9 x10 x11 x12 x13 f0 f1 w hgo h0 h1).mono fun e w' ⟨he, hx⟩ => ⟨he.trans (hv _ _ (by unfold useL pickW; simp)), hx⟩
  · exact (use1_tf F caps x2 x3 x4 x5 x6 x7 x8 x9 x10 x11 x12 x13 f0 f1 w hgo h0 h1).mono fun e w' ⟨he, hx⟩ => ⟨he.trans (hv _ _ (by unfold useL pickW; simp)), hx⟩
  · refine (use1_tt F caps x2 x3 x4 x5 x6 x7 x8 x9 x10 x11 x12 x13 f0 f1 w hgo h0 h1).mono fun e w' ⟨he, hx⟩ => ⟨he.trans (hv _ _ ?_), hx⟩
    by_cases hh : gtL f0.bx f0.yb f1.bx f1.yb
    · have hp := balI_pos.2 hh
      unfold useL pickW
      simp [hh, hp]
    · have hp : ¬ 0 < balI f0.bx f0.yb f1.bx f1.yb := fun h => hh (balI_pos.1 h)
      unfold useL pickW
      simp [hh, hp]
end Go.Proofs.Ytejejadbemkifaa
