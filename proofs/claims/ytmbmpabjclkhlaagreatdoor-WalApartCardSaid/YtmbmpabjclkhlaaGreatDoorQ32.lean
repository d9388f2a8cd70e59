/-
  What a slot is, in one form.
-/
import Derived.Test.YtmbmpabjclkhlaaGreatDoorQ00
import Derived.Test.YtmbmpabjclkhlaaGreatDoorQ15
import Derived.Test.YtmbmpabjclkhlaaGreatDoorQ21
import Derived.Test.YtmbmpabjclkhlaaGreatDoorQ27
import Derived.Test.YtmbmpabjclkhlaaGreatDoorQ28
import Derived.Test.YtmbmpabjclkhlaaGreatDoorQ29
import Derived.Test.YtmbmpabjclkhlaaGreatDoorQ30
import Derived.Test.YtmbmpabjclkhlaaGreatDoorQ31
namespace Go.Proofs.YtmbmpabjclkhlaaGreatDoor
set_option maxRecDepth 100000
section
open Go Go.RowKit
def stateL (p : Rec) (f0 f1 : CopL) (i : Int) : Nat := if 0 ≤ whereL p f0 f1 i then 2 else if p.of i then 3 else if beyL p f0 f1 i ∨ (p.st = 2 ∧ badL f0 f1) then 4 else 1
theorem pickW_congr {a b h a' b' h' : Prop} [Decidable a] [Decidable b] [Decidable h] [Decidable a'] [Decidable b'] [Decidable h'] (ha : a ↔ a') (hb : b ↔ b') (hh : h ↔ h') : pickW a b h = pickW a' b' h' := by
  unfold pickW
  by_cases x : a' <;> by_cases y : b' <;> by_cases z : h' <;> simp [ha, hb, hh, x, y, z]
theorem what_core (p : Rec) (f0 f1 : CopL) (i fi cl st bx yb : Int) (q : CopL → Bool) (hfi : fi = 0 ∨ fi = 1) (hq : useL fi (q f0) (q f1) f0 f1 = whereL p f0 f1 i) (w : World)
    (hno : whereL p f0 f1 i = -1 → cl = (classL p f0 f1 i : Nat) ∧ st = (stateL p f0 f1 i : Nat) ∧ bx = repX p f0 f1 i ∧ yb = repY p f0 f1 i) (hap : ∀ V, Calls Tryz.prog 220 #[.agg #[.int .u8 (p.st : Int), .int .i64 p.ix, .int .i64 p.bx, .int .i64 p.yb, .int .i64 p.wh], .agg #[.int .u8 (f0.st : Int), .int .i64 f0.ix, .int .i64 f0.bx, .int .i64 f0.yb, .int .u8 (f0.e.k : Int), .int .i64 f0.e.cl, .int .i64 f0.e.sq, .int .u8 (f0.e.ok : Int), .string f0.e.key, .string f0.e.old, .string f0.e.val, .int .u8 (f1.st : Int), .int .i64 f1.ix, .int .i64 f1.bx, .int .i64 f1.yb, .int .u8 (f1.e.k : Int), .int .i64 f1.e.cl, .int .i64 f1.e.sq, .int .u8 (f1.e.ok : Int), .string f1.e.key, .string f1.e.old, .string f1.e.val], .int .i64 i] V fun e w' => ∃ (F : Nat) (caps : Array Value), e = .returned (.agg #[.func (.func F) #[] caps, .int .i64 fi, .int .u8 cl, .int .i64 0, .int .u8 st, .int .i64 bx, .int .i64 yb, .int .u8 0, .int .i64 0, .int .i64 0, .int .u8 0, .string ⟨#[]⟩, .string ⟨#[]⟩, .string ⟨#[]⟩]) ∧ Ext V w' ∧ Enters Tryz.prog F ∧ ∀ c, Asks w' F caps c (q c)) :
    Calls Tryz.prog 143 #[.agg #[.int .u8 (p.st : Int), .int .i64 p.ix, .int .i64 p.bx, .int .i64 p.yb, .int .i64 p.wh], .agg #[.int .u8 (f0.st : Int), .int .i64 f0.ix, .int .i64 f0.bx, .int .i64 f0.yb, .int .u8 (f0.e.k : Int), .int .i64 f0.e.cl, .int .i64 f0.e.sq, .int .u8 (f0.e.ok : Int), .string f0.e.key, .string f0.e.old, .string f0.e.val, .int .u8 (f1.st : Int), .int .i64 f1.ix, .int .i64 f1.bx, .int .i64 f1.yb, .int .u8 (f1.e.k : Int), .int .i64 f1.e.cl, .int .i64 f1.e.sq, .int .u8 (f1.e.ok : Int), .string f1.e.key, .string f1.e.old, .string f1.e.val], .int .i64 i] w fun e w' => e = .returned (.tuple #[.int .u8 (classL p f0 f1 i : Nat), .agg #[.int .i64 i, .int .u8 (stateL p f0 f1 i : Nat), .int .i64 (repX p f0 f1 i), .int .i64 (repY p f0 f1 i), .int .u8 ((repE p f0 f1 i).k : Int), .int .i64 (repE p f0 f1 i).cl, .int .i64 (repE p f0 f1 i).sq, .int .u8 ((repE p f0 f1 i).ok : Int), .string (repE p f0 f1 i).key, .string (repE p f0 f1 i).old, .string (repE p f0 f1 i).val], .int .i64 (whereL p f0 f1 i)]) ∧ Ext w w' := by
  rcases whereL_of (p := p) (f0 := f0) (f1 := f1) (i := i) with h | ⟨h, _⟩ | ⟨h, _⟩
  · obtain ⟨rfl, rfl, rfl, rfl⟩ := hno h
    have e1 : repE p f0 f1 i = {} := by unfold repE; rw [h]; rfl
    refine (what_none p f0 f1 i fi _ _ _ _ q hfi (hq.trans h) w hap).mono fun e w' ⟨he, hx⟩ => ⟨he.trans ?_, hx⟩
    rw [e1, h]
    rfl
  · have e1 : repE p f0 f1 i = f0.e := by unfold repE; rw [h]; rfl
    have e2 : repX p f0 f1 i = f0.bx := by unfold repX; rw [h]; rfl
    have e3 : repY p f0 f1 i = f0.yb := by unfold repY; rw [h]; rfl
    have e4 : classL p f0 f1 i = 3 := classL_three.2 (by omega)
    have e5 : stateL p f0 f1 i = 2 := if_pos (by omega)
    refine (what_0 p f0 f1 i fi _ _ _ _ q hfi (hq.trans h) w hap).mono fun e w' ⟨he, hx⟩ => ⟨he.trans ?_, hx⟩
    rw [e1, e2, e3, e4, e5, h]
    rfl
  · have e1 : repE p f0 f1 i = f1.e := by unfold repE; rw [h]; rfl
    have e2 : repX p f0 f1 i = f1.bx := by unfold repX; rw [h]; rfl
    have e3 : repY p f0 f1 i = f1.yb := by unfold repY; rw [h]; rfl
    have e4 : classL p f0 f1 i = 3 := classL_three.2 (by omega)
    have e5 : stateL p f0 f1 i = 2 := if_pos (by omega)
    refine (what_1 p f0 f1 i fi _ _ _ _ q hfi (hq.trans h) w hap).mono fun e w' ⟨he, hx⟩ => ⟨he.trans ?_, hx⟩
    rw [e1, e2, e3, e4, e5, h]
    rfl
theorem not_of_false {b : Bool} {P : Prop} (h : b = true ↔ P) (hb : b = false) : ¬ P := fun hp => by rw [h.2 hp] at hb; cases hb
theorem what_of (p : Rec) (f0 f1 : CopL) (i : Int) (w : World) (hp : p.st ≤ 2) (h0 : f0.st ≤ 2) (h1 : f1.st ≤ 2) (hw : p.wh = 0 ∨ p.wh = 1) :
    Calls Tryz.prog 143 #[.agg #[.int .u8 (p.st : Int), .int .i64 p.ix, .int .i64 p.bx, .int .i64 p.yb, .int .i64 p.wh], .agg #[.int .u8 (f0.st : Int), .int .i64 f0.ix, .int .i64 f0.bx, .int .i64 f0.yb, .int .u8 (f0.e.k : Int), .int .i64 f0.e.cl, .int .i64 f0.e.sq, .int .u8 (f0.e.ok : Int), .string f0.e.key, .string f0.e.old, .string f0.e.val, .int .u8 (f1.st : Int), .int .i64 f1.ix, .int .i64 f1.bx, .int .i64 f1.yb, .int .u8 (f1.e.k : Int), .int .i64 f1.e.cl, .int .i64 f1.e.sq, .int .u8 (f1.e.ok : Int), .string f1.e.key, .string f1.e.old, .string f1.e.val], .int .i64 i] w fun e w' => e = .returned (.tuple #[.int .u8 (classL p f0 f1 i : Nat), .agg #[.int .i64 i, .int .u8 (stateL p f0 f1 i : Nat), .int .i64 (repX p f0 f1 i), .int .i64 (repY p f0 f1 i), .int .u8 ((repE p f0 f1 i).k : Int), .int .i64 (repE p f0 f1 i).cl, .int .i64 (repE p f0 f1 i).sq, .int .u8 ((repE p f0 f1 i).ok : Int), .string (repE p f0 f1 i).key, .string (repE p f0 f1 i).old, .string (repE p f0 f1 i).val], .int .i64 (whereL p f0 f1 i)]) ∧ Ext w w' := by
  cases ho : isR p i with
  | true =>
    have hof := isR_iff.1 ho
    refine what_core p f0 f1 i p.wh 2 3 p.bx p.yb (recentB p i) hw ?_ w (fun h => ?_) (fun V => apply_rec p f0 f1 i V hw ho)
    · unfold useL whereL
      rw [if_pos hof]
      by_cases h1w : p.wh = 1
      · rw [if_pos h1w, if_pos h1w]
        exact pickW_congr recentB_iff recentB_iff Iff.rfl
      · rw [if_neg h1w, if_neg h1w]
        exact pickW_congr recentB_iff recentB_iff Iff.rfl
    · unfold classL stateL repX repY
      rw [h]
      simp [hof]
  | false =>
    have hof : ¬ p.of i := not_of_false isR_iff ho
    have blind : beyL p f0 f1 i ∨ (p.st = 2 ∧ badL f0 f1) → (∀ V, Calls Tryz.prog 220 #[.agg #[.int .u8 (p.st : Int), .int .i64 p.ix, .int .i64 p.bx, .int .i64 p.yb, .int .i64 p.wh], .agg #[.int .u8 (f0.st : Int), .int .i64 f0.ix, .int .i64 f0.bx, .int .i64 f0.yb, .int .u8 (f0.e.k : Int), .int .i64 f0.e.cl, .int .i64 f0.e.sq, .int .u8 (f0.e.ok : Int), .string f0.e.key, .string f0.e.old, .string f0.e.val, .int .u8 (f1.st : Int), .int .i64 f1.ix, .int .i64 f1.bx, .int .i64 f1.yb, .int .u8 (f1.e.k : Int), .int .i64 f1.e.cl, .int .i64 f1.e.sq, .int .u8 (f1.e.ok : Int), .string f1.e.key, .string f1.e.old, .string f1.e.val], .int .i64 i] V fun e w' => ∃ (F : Nat) (caps : Array Value), e = .returned (.agg #[.func (.func F) #[] caps, .int .i64 0, .int .u8 2, .int .i64 0, .int .u8 4, .int .i64 0, .int .i64 0, .int .u8 0, .int .i64 0, .int .i64 0, .int .u8 0, .string ⟨#[]⟩, .string ⟨#[]⟩, .string ⟨#[]⟩]) ∧ Ext V w' ∧ Enters Tryz.prog F ∧ ∀ c, Asks w' F caps c (false)) →
        Calls Tryz.prog 143 #[.agg #[.int .u8 (p.st : Int), .int .i64 p.ix, .int .i64 p.bx, .int .i64 p.yb, .int .i64 p.wh], .agg #[.int .u8 (f0.st : Int), .int .i64 f0.ix, .int .i64 f0.bx, .int .i64 f0.yb, .int .u8 (f0.e.k : Int), .int .i64 f0.e.cl, .int .i64 f0.e.sq, .int .u8 (f0.e.ok : Int), .string f0.e.key, .string f0.e.old, .string f0.e.val, .int .u8 (f1.st : Int), .int .i64 f1.ix, .int .i64 f1.bx, .int .i64 f1.yb, .int .u8 (f1.e.k : Int), .int .i64 f1.e.cl, .int .i64 f1.e.sq, .int .u8 (f1.e.ok : Int), .string f1.e.key, .string f1.e.old, .string f1.e.val], .int .i64 i] w fun e w' => e = .returned (.tuple #[.int .u8 (classL p f0 f1 i : Nat), .agg #[.int .i64 i, .int .u8 (stateL p f0 f1 i : Nat), .int .i64 (repX p f0 f1 i), .int .i64 (repY p f0 f1 i), .int .u8 ((repE p f0 f1 i).k : Int), .int .i64 (repE p f0 f1 i).cl, .int .i64 (repE p f0 f1 i).sq, .int .u8 ((repE p f0 f1 i).ok : Int), .string (repE p f0 f1 i).key, .string (repE p f0 f1 i).old, .string (repE p f0 f1 i).val], .int .i64 (whereL p f0 f1 i)]) ∧ Ext w w' := fun hb hap => by
      have hwh : whereL p f0 f1 i = -1 := by unfold whereL; rw [if_neg hof, if_pos hb]
      refine what_core p f0 f1 i 0 2 4 0 0 (fun _ => false) (.inl rfl) (by rw [hwh]; rfl) w (fun h => ?_) hap
      unfold classL stateL repX repY
      rw [h]
      simp [hof, hb]
    have plain : ∀ cl : Int, ¬ (beyL p f0 f1 i ∨ (p.st = 2 ∧ badL f0 f1)) → (cl = if badL f0 f1 then 1 else 0) → (∀ V, Calls Tryz.prog 220 #[.agg #[.int .u8 (p.st : Int), .int .i64 p.ix, .int .i64 p.bx, .int .i64 p.yb, .int .i64 p.wh], .agg #[.int .u8 (f0.st : Int), .int .i64 f0.ix, .int .i64 f0.bx, .int .i64 f0.yb, .int .u8 (f0.e.k : Int), .int .i64 f0.e.cl, .int .i64 f0.e.sq, .int .u8 (f0.e.ok : Int), .string f0.e.key, .string f0.e.old, .string f0.e.val, .int .u8 (f1.st : Int), .int .i64 f1.ix, .int .i64 f1.bx, .int .i64 f1.yb, .int .u8 (f1.e.k : Int), .int .i64 f1.e.cl, .int .i64 f1.e.sq, .int .u8 (f1.e.ok : Int), .string f1.e.key, .string f1.e.old, .string f1.e.val], .int .i64 i] V fun e w' => ∃ (F : Nat) (caps : Array Value), e = .returned (.agg #[.func (.func F) #[] caps, .int .i64 0, .int .u8 cl, .int .i64 0, .int .u8 1, .int .i64 0, .int .i64 0, .int .u8 0, .int .i64 0, .int .i64 0, .int .u8 0, .string ⟨#[]⟩, .string ⟨#[]⟩, .string ⟨#[]⟩]) ∧ Ext V w' ∧ Enters Tryz.prog F ∧ ∀ c, Asks w' F caps c (isB c i)) →
        Calls Tryz.prog 143 #[.agg #[.int .u8 (p.st : Int), .int .i64 p.ix, .int .i64 p.bx, .int .i64 p.yb, .int .i64 p.wh], .agg #[.int .u8 (f0.st : Int), .int .i64 f0.ix, .int .i64 f0.bx, .int .i64 f0.yb, .int .u8 (f0.e.k : Int), .int .i64 f0.e.cl, .int .i64 f0.e.sq, .int .u8 (f0.e.ok : Int), .string f0.e.key, .string f0.e.old, .string f0.e.val, .int .u8 (f1.st : Int), .int .i64 f1.ix, .int .i64 f1.bx, .int .i64 f1.yb, .int .u8 (f1.e.k : Int), .int .i64 f1.e.cl, .int .i64 f1.e.sq, .int .u8 (f1.e.ok : Int), .string f1.e.key, .string f1.e.old, .string f1.e.val], .int .i64 i] w fun e w' => e = .returned (.tuple #[.int .u8 (classL p f0 f1 i : Nat), .agg #[.int .i64 i, .int .u8 (stateL p f0 f1 i : Nat), .int .i64 (repX p f0 f1 i), .int .i64 (repY p f0 f1 i), .int .u8 ((repE p f0 f1 i).k : Int), .int .i64 (repE p f0 f1 i).cl, .int .i64 (repE p f0 f1 i).sq, .int .u8 ((repE p f0 f1 i).ok : Int), .string (repE p f0 f1 i).key, .string (repE p f0 f1 i).old, .string (repE p f0 f1 i).val], .int .i64 (whereL p f0 f1 i)]) ∧ Ext w w' := fun cl hb hcl hap => by
      refine what_core p f0 f1 i 0 cl 1 0 0 (fun c => isB c i) (.inl rfl) ?_ w (fun h => ?_) hap
      · unfold useL whereL
        rw [if_neg hof, if_neg hb, if_neg (by omega)]
        exact pickW_congr isB_iff isB_iff Iff.rfl
      · rw [hcl]
        unfold classL stateL repX repY
        rw [h]
        have n0 : ¬ (0 : Int) ≤ -1 := by omega
        simp only [n0, hof, hb, if_false]
        by_cases hx : badL f0 f1 <;> simp [hx]
    cases hc : covB p f0 f1 i with
    | true => exact blind (.inl (covB_iff.1 hc)) fun V => apply_cov p f0 f1 i V ho hc
    | false =>
      have hnc := not_of_false covB_iff hc
      cases hb : hasB f0 f1 with
      | true =>
        have hbl := (hasB_iff h0 h1).1 hb
        cases hpb : badB p.st with
        | true => exact blind (.inr ⟨(badB_iff hp).1 hpb, hbl⟩) fun V => apply_bad p f0 f1 i V ho hc hpb hb
        | false =>
          have hnp := not_of_false (badB_iff hp) hpb
          exact plain 1 (fun h => h.elim hnc fun h => hnp h.1) (by rw [if_pos hbl]) fun V => apply_torn p f0 f1 i V ho hc hpb hb
      | false =>
        have hnb := not_of_false (hasB_iff h0 h1) hb
        cases hpb : badB p.st with
        | true => exact plain 0 (fun h => h.elim hnc fun h => hnb h.2) (by rw [if_neg hnb]) fun V => apply_absT p f0 f1 i V ho hc hpb hb
        | false => exact plain 0 (fun h => h.elim hnc fun h => hnb h.2) (by rw [if_neg hnb]) fun V => apply_absF p f0 f1 i V ho hc hpb hb
end
section
open Go Go.RowKit
theorem next_pre (w : World) (p : Rec) (f0 f1 : CopL) : RecAt ((w.alloc (.cells #[.int .u8 (p.st : Int), .int .i64 p.ix, .int .i64 p.bx, .int .i64 p.yb, .int .i64 p.wh] 147)).alloc (.cells #[.int .u8 (f0.st : Int), .int .i64 f0.ix, .int .i64 f0.bx, .int .i64 f0.yb, .int .u8 (f0.e.k : Int), .int .i64 f0.e.cl, .int .i64 f0.e.sq, .int .u8 (f0.e.ok : Int), .string f0.e.key, .string f0.e.old, .string f0.e.val, .int .u8 (f1.st : Int), .int .i64 f1.ix, .int .i64 f1.bx, .int .i64 f1.yb, .int .u8 (f1.e.k : Int), .int .i64 f1.e.cl, .int .i64 f1.e.sq, .int .u8 (f1.e.ok : Int), .string f1.e.key, .string f1.e.old, .string f1.e.val] 150)) w.heap.size p ∧ TwoL ((w.alloc (.cells #[.int .u8 (p.st : Int), .int .i64 p.ix, .int .i64 p.bx, .int .i64 p.yb, .int .i64 p.wh] 147)).alloc (.cells #[.int .u8 (f0.st : Int), .int .i64 f0.ix, .int .i64 f0.bx, .int .i64 f0.yb, .int .u8 (f0.e.k : Int), .int .i64 f0.e.cl, .int .i64 f0.e.sq, .int .u8 (f0.e.ok : Int), .string f0.e.key, .string f0.e.old, .string f0.e.val, .int .u8 (f1.st : Int), .int .i64 f1.ix, .int .i64 f1.bx, .int .i64 f1.yb, .int .u8 (f1.e.k : Int), .int .i64 f1.e.cl, .int .i64 f1.e.sq, .int .u8 (f1.e.ok : Int), .string f1.e.key, .string f1.e.old, .string f1.e.val] 150)) (w.heap.size + 1) f0 f1 ∧ Ext w ((w.alloc (.cells #[.int .u8 (p.st : Int), .int .i64 p.ix, .int .i64 p.bx, .int .i64 p.yb, .int .i64 p.wh] 147)).alloc (.cells #[.int .u8 (f0.st : Int), .int .i64 f0.ix, .int .i64 f0.bx, .int .i64 f0.yb, .int .u8 (f0.e.k : Int), .int .i64 f0.e.cl, .int .i64 f0.e.sq, .int .u8 (f0.e.ok : Int), .string f0.e.key, .string f0.e.old, .string f0.e.val, .int .u8 (f1.st : Int), .int .i64 f1.ix, .int .i64 f1.bx, .int .i64 f1.yb, .int .u8 (f1.e.k : Int), .int .i64 f1.e.cl, .int .i64 f1.e.sq, .int .u8 (f1.e.ok : Int), .string f1.e.key, .string f1.e.old, .string f1.e.val] 150)) := by
  refine ⟨(RecAt.new w p).ext ((Ext.refl _).alloc _), ?_, ((Ext.refl w).alloc _).alloc _⟩
  have h := TwoL.new (w.alloc (.cells #[.int .u8 (p.st : Int), .int .i64 p.ix, .int .i64 p.bx, .int .i64 p.yb, .int .i64 p.wh] 147)) f0 f1
  rw [World.size_alloc] at h
  exact h
set_option maxHeartbeats 400000 in
theorem next_0 (p : Rec) (f0 f1 : CopL) (i : Int) (w : World) (hp : p.st ≤ 2) (h0 : f0.st ≤ 2) (h1 : f1.st ≤ 2) (hw : p.wh = 0 ∨ p.wh = 1) (hk : whereL p f0 f1 i = 0) :
    Calls Tryz.prog 70 #[.agg #[.int .u8 (p.st : Int), .int .i64 p.ix, .int .i64 p.bx, .int .i64 p.yb, .int .i64 p.wh], .agg #[.int .u8 (f0.st : Int), .int .i64 f0.ix, .int .i64 f0.bx, .int .i64 f0.yb, .int .u8 (f0.e.k : Int), .int .i64 f0.e.cl, .int .i64 f0.e.sq, .int .u8 (f0.e.ok : Int), .string f0.e.key, .string f0.e.old, .string f0.e.val, .int .u8 (f1.st : Int), .int .i64 f1.ix, .int .i64 f1.bx, .int .i64 f1.yb, .int .u8 (f1.e.k : Int), .int .i64 f1.e.cl, .int .i64 f1.e.sq, .int .u8 (f1.e.ok : Int), .string f1.e.key, .string f1.e.old, .string f1.e.val], .int .i64 i] w fun e w' => e = .returned (.int .i64 1) ∧ Ext w w' := by
  have HWH := Lib.hid (fun V => what_of p f0 f1 i V hp h0 h1 hw)
  have HP := Lib.hid (next_pre w p f0 f1)
  have HNA := Lib.hid (named_of p hw)
  have HO := Lib.hid otherL_of
  rw [hk] at HWH
  clear hp h0 h1 hw hk
  go_enter Tryz.func70, Tryz.ntmps70
  go_upto_region 1 with (fail)
  generalize ((w.alloc (.cells #[.int .u8 (p.st : Int), .int .i64 p.ix, .int .i64 p.bx, .int .i64 p.yb, .int .i64 p.wh] 147)).alloc (.cells #[.int .u8 (f0.st : Int), .int .i64 f0.ix, .int .i64 f0.bx, .int .i64 f0.yb, .int .u8 (f0.e.k : Int), .int .i64 f0.e.cl, .int .i64 f0.e.sq, .int .u8 (f0.e.ok : Int), .string f0.e.key, .string f0.e.old, .string f0.e.val, .int .u8 (f1.st : Int), .int .i64 f1.ix, .int .i64 f1.bx, .int .i64 f1.yb, .int .u8 (f1.e.k : Int), .int .i64 f1.e.cl, .int .i64 f1.e.sq, .int .u8 (f1.e.ok : Int), .string f1.e.key, .string f1.e.old, .string f1.e.val] 150)) = W at *
  generalize w.heap.size + 1 = g1 at *
  generalize hg : w.heap.size = g at *
  have HG := Lib.hid hg
  clear hg
  have c0 := cell_of_row W g 0 _ _ _ (HP.out.1)
  have c1 := cell_of_row W g 1 _ _ _ (HP.out.1)
  have c2 := cell_of_row W g 2 _ _ _ (HP.out.1)
  have c3 := cell_of_row W g 3 _ _ _ (HP.out.1)
  have c4 := cell_of_row W g 4 _ _ _ (HP.out.1)
  obtain ⟨N, hN, hsz⟩ := size_two
  have hld := load_two hN HP.out.2.1
  have HNN := Lib.hid hN
  clear hN
  go_wp2_with fail
  refine (HWH.out W).mono ?_
  rintro e w1 ⟨rfl, hx⟩
  have HX := Lib.hid (((HP.out.2.2.trans hx).alloc (.cells #[.int .i64 i, .int .u8 (stateL p f0 f1 i : Nat), .int .i64 (repX p f0 f1 i), .int .i64 (repY p f0 f1 i), .int .u8 ((repE p f0 f1 i).k : Int), .int .i64 (repE p f0 f1 i).cl, .int .i64 (repE p f0 f1 i).sq, .int .u8 ((repE p f0 f1 i).ok : Int), .string (repE p f0 f1 i).key, .string (repE p f0 f1 i).old, .string (repE p f0 f1 i).val] 80)))
  have HR := Lib.hid ((HP.out.1.ext hx).ext ((Ext.refl w1).alloc (.cells #[.int .i64 i, .int .u8 (stateL p f0 f1 i : Nat), .int .i64 (repX p f0 f1 i), .int .i64 (repY p f0 f1 i), .int .u8 ((repE p f0 f1 i).k : Int), .int .i64 (repE p f0 f1 i).cl, .int .i64 (repE p f0 f1 i).sq, .int .u8 ((repE p f0 f1 i).ok : Int), .string (repE p f0 f1 i).key, .string (repE p f0 f1 i).old, .string (repE p f0 f1 i).val] 80)))
  clear hx hsz hld HNN c0 c1 c2 c3 c4
  go_upto_region 2 with (fail)
  generalize (w1.alloc (.cells #[.int .i64 i, .int .u8 (stateL p f0 f1 i : Nat), .int .i64 (repX p f0 f1 i), .int .i64 (repY p f0 f1 i), .int .u8 ((repE p f0 f1 i).k : Int), .int .i64 (repE p f0 f1 i).cl, .int .i64 (repE p f0 f1 i).sq, .int .u8 ((repE p f0 f1 i).ok : Int), .string (repE p f0 f1 i).key, .string (repE p f0 f1 i).old, .string (repE p f0 f1 i).val] 80)) = w2 at *
  go_wp2_with fail
  refine (HO.out _ (by simp) _).mono ?_
  rintro e w3 ⟨rfl, rfl⟩
  go_wp2_with fail
  go_ret
  exact ⟨rfl, HX.out⟩
set_option maxHeartbeats 400000 in
theorem next_1 (p : Rec) (f0 f1 : CopL) (i : Int) (w : World) (hp : p.st ≤ 2) (h0 : f0.st ≤ 2) (h1 : f1.st ≤ 2) (hw : p.wh = 0 ∨ p.wh = 1) (hk : whereL p f0 f1 i = 1) :
    Calls Tryz.prog 70 #[.agg #[.int .u8 (p.st : Int), .int .i64 p.ix, .int .i64 p.bx, .int .i64 p.yb, .int .i64 p.wh], .agg #[.int .u8 (f0.st : Int), .int .i64 f0.ix, .int .i64 f0.bx, .int .i64 f0.yb, .int .u8 (f0.e.k : Int), .int .i64 f0.e.cl, .int .i64 f0.e.sq, .int .u8 (f0.e.ok : Int), .string f0.e.key, .string f0.e.old, .string f0.e.val, .int .u8 (f1.st : Int), .int .i64 f1.ix, .int .i64 f1.bx, .int .i64 f1.yb, .int .u8 (f1.e.k : Int), .int .i64 f1.e.cl, .int .i64 f1.e.sq, .int .u8 (f1.e.ok : Int), .string f1.e.key, .string f1.e.old, .string f1.e.val], .int .i64 i] w fun e w' => e = .returned (.int .i64 0) ∧ Ext w w' := by
  have HWH := Lib.hid (fun V => what_of p f0 f1 i V hp h0 h1 hw)
  have HP := Lib.hid (next_pre w p f0 f1)
  have HNA := Lib.hid (named_of p hw)
  have HO := Lib.hid otherL_of
  rw [hk] at HWH
  clear hp h0 h1 hw hk
  go_enter Tryz.func70, Tryz.ntmps70
  go_upto_region 1 with (fail)
  generalize ((w.alloc (.cells #[.int .u8 (p.st : Int), .int .i64 p.ix, .int .i64 p.bx, .int .i64 p.yb, .int .i64 p.wh] 147)).alloc (.cells #[.int .u8 (f0.st : Int), .int .i64 f0.ix, .int .i64 f0.bx, .int .i64 f0.yb, .int .u8 (f0.e.k : Int), .int .i64 f0.e.cl, .int .i64 f0.e.sq, .int .u8 (f0.e.ok : Int), .string f0.e.key, .string f0.e.old, .string f0.e.val, .int .u8 (f1.st : Int), .int .i64 f1.ix, .int .i64 f1.bx, .int .i64 f1.yb, .int .u8 (f1.e.k : Int), .int .i64 f1.e.cl, .int .i64 f1.e.sq, .int .u8 (f1.e.ok : Int), .string f1.e.key, .string f1.e.old, .string f1.e.val] 150)) = W at *
  generalize w.heap.size + 1 = g1 at *
  generalize hg : w.heap.size = g at *
  have HG := Lib.hid hg
  clear hg
  have c0 := cell_of_row W g 0 _ _ _ (HP.out.1)
  have c1 := cell_of_row W g 1 _ _ _ (HP.out.1)
  have c2 := cell_of_row W g 2 _ _ _ (HP.out.1)
  have c3 := cell_of_row W g 3 _ _ _ (HP.out.1)
  have c4 := cell_of_row W g 4 _ _ _ (HP.out.1)
  obtain ⟨N, hN, hsz⟩ := size_two
  have hld := load_two hN HP.out.2.1
  have HNN := Lib.hid hN
  clear hN
  go_wp2_with fail
  refine (HWH.out W).mono ?_
  rintro e w1 ⟨rfl, hx⟩
  have HX := Lib.hid (((HP.out.2.2.trans hx).alloc (.cells #[.int .i64 i, .int .u8 (stateL p f0 f1 i : Nat), .int .i64 (repX p f0 f1 i), .int .i64 (repY p f0 f1 i), .int .u8 ((repE p f0 f1 i).k : Int), .int .i64 (repE p f0 f1 i).cl, .int .i64 (repE p f0 f1 i).sq, .int .u8 ((repE p f0 f1 i).ok : Int), .string (repE p f0 f1 i).key, .string (repE p f0 f1 i).old, .string (repE p f0 f1 i).val] 80)))
  have HR := Lib.hid ((HP.out.1.ext hx).ext ((Ext.refl w1).alloc (.cells #[.int .i64 i, .int .u8 (stateL p f0 f1 i : Nat), .int .i64 (repX p f0 f1 i), .int .i64 (repY p f0 f1 i), .int .u8 ((repE p f0 f1 i).k : Int), .int .i64 (repE p f0 f1 i).cl, .int .i64 (repE p f0 f1 i).sq, .int .u8 ((repE p f0 f1 i).ok : Int), .string (repE p f0 f1 i).key, .string (repE p f0 f1 i).old, .string (repE p f0 f1 i).val] 80)))
  clear hx hsz hld HNN c0 c1 c2 c3 c4
  go_upto_region 2 with (fail)
  generalize (w1.alloc (.cells #[.int .i64 i, .int .u8 (stateL p f0 f1 i : Nat), .int .i64 (repX p f0 f1 i), .int .i64 (repY p f0 f1 i), .int .u8 ((repE p f0 f1 i).k : Int), .int .i64 (repE p f0 f1 i).cl, .int .i64 (repE p f0 f1 i).sq, .int .u8 ((repE p f0 f1 i).ok : Int), .string (repE p f0 f1 i).key, .string (repE p f0 f1 i).old, .string (repE p f0 f1 i).val] 80)) = w2 at *
  go_wp2_with fail
  refine (HO.out _ (by simp) _).mono ?_
  rintro e w3 ⟨rfl, rfl⟩
  go_wp2_with fail
  go_ret
  exact ⟨rfl, HX.out⟩
set_option maxHeartbeats 400000 in
theorem next_n0 (p : Rec) (f0 f1 : CopL) (i : Int) (w : World) (hp : p.st ≤ 2) (h0 : f0.st ≤ 2) (h1 : f1.st ≤ 2) (hw : p.wh = 0 ∨ p.wh = 1) (hk : whereL p f0 f1 i = -1) (hn : namedL p = 0):
    Calls Tryz.prog 70 #[.agg #[.int .u8 (p.st : Int), .int .i64 p.ix, .int .i64 p.bx, .int .i64 p.yb, .int .i64 p.wh], .agg #[.int .u8 (f0.st : Int), .int .i64 f0.ix, .int .i64 f0.bx, .int .i64 f0.yb, .int .u8 (f0.e.k : Int), .int .i64 f0.e.cl, .int .i64 f0.e.sq, .int .u8 (f0.e.ok : Int), .string f0.e.key, .string f0.e.old, .string f0.e.val, .int .u8 (f1.st : Int), .int .i64 f1.ix, .int .i64 f1.bx, .int .i64 f1.yb, .int .u8 (f1.e.k : Int), .int .i64 f1.e.cl, .int .i64 f1.e.sq, .int .u8 (f1.e.ok : Int), .string f1.e.key, .string f1.e.old, .string f1.e.val], .int .i64 i] w fun e w' => e = .returned (.int .i64 1) ∧ Ext w w' := by
  have HWH := Lib.hid (fun V => what_of p f0 f1 i V hp h0 h1 hw)
  have HP := Lib.hid (next_pre w p f0 f1)
  have HNA := Lib.hid (named_of p hw)
  have HO := Lib.hid otherL_of
  rw [hk] at HWH
  rw [hn] at HNA
  clear hp h0 h1 hw hk hn
  go_enter Tryz.func70, Tryz.ntmps70
  go_upto_region 1 with (fail)
  generalize ((w.alloc (.cells #[.int .u8 (p.st : Int), .int .i64 p.ix, .int .i64 p.bx, .int .i64 p.yb, .int .i64 p.wh] 147)).alloc (.cells #[.int .u8 (f0.st : Int), .int .i64 f0.ix, .int .i64 f0.bx, .int .i64 f0.yb, .int .u8 (f0.e.k : Int), .int .i64 f0.e.cl, .int .i64 f0.e.sq, .int .u8 (f0.e.ok : Int), .string f0.e.key, .string f0.e.old, .string f0.e.val, .int .u8 (f1.st : Int), .int .i64 f1.ix, .int .i64 f1.bx, .int .i64 f1.yb, .int .u8 (f1.e.k : Int), .int .i64 f1.e.cl, .int .i64 f1.e.sq, .int .u8 (f1.e.ok : Int), .string f1.e.key, .string f1.e.old, .string f1.e.val] 150)) = W at *
  generalize w.heap.size + 1 = g1 at *
  generalize hg : w.heap.size = g at *
  have HG := Lib.hid hg
  clear hg
  have c0 := cell_of_row W g 0 _ _ _ (HP.out.1)
  have c1 := cell_of_row W g 1 _ _ _ (HP.out.1)
  have c2 := cell_of_row W g 2 _ _ _ (HP.out.1)
  have c3 := cell_of_row W g 3 _ _ _ (HP.out.1)
  have c4 := cell_of_row W g 4 _ _ _ (HP.out.1)
  obtain ⟨N, hN, hsz⟩ := size_two
  have hld := load_two hN HP.out.2.1
  have HNN := Lib.hid hN
  clear hN
  go_wp2_with fail
  refine (HWH.out W).mono ?_
  rintro e w1 ⟨rfl, hx⟩
  have HX := Lib.hid (((HP.out.2.2.trans hx).alloc (.cells #[.int .i64 i, .int .u8 (stateL p f0 f1 i : Nat), .int .i64 (repX p f0 f1 i), .int .i64 (repY p f0 f1 i), .int .u8 ((repE p f0 f1 i).k : Int), .int .i64 (repE p f0 f1 i).cl, .int .i64 (repE p f0 f1 i).sq, .int .u8 ((repE p f0 f1 i).ok : Int), .string (repE p f0 f1 i).key, .string (repE p f0 f1 i).old, .string (repE p f0 f1 i).val] 80)))
  have HR := Lib.hid ((HP.out.1.ext hx).ext ((Ext.refl w1).alloc (.cells #[.int .i64 i, .int .u8 (stateL p f0 f1 i : Nat), .int .i64 (repX p f0 f1 i), .int .i64 (repY p f0 f1 i), .int .u8 ((repE p f0 f1 i).k : Int), .int .i64 (repE p f0 f1 i).cl, .int .i64 (repE p f0 f1 i).sq, .int .u8 ((repE p f0 f1 i).ok : Int), .string (repE p f0 f1 i).key, .string (repE p f0 f1 i).old, .string (repE p f0 f1 i).val] 80)))
  clear hx hsz hld HNN c0 c1 c2 c3 c4
  go_upto_region 2 with (fail)
  generalize (w1.alloc (.cells #[.int .i64 i, .int .u8 (stateL p f0 f1 i : Nat), .int .i64 (repX p f0 f1 i), .int .i64 (repY p f0 f1 i), .int .u8 ((repE p f0 f1 i).k : Int), .int .i64 (repE p f0 f1 i).cl, .int .i64 (repE p f0 f1 i).sq, .int .u8 ((repE p f0 f1 i).ok : Int), .string (repE p f0 f1 i).key, .string (repE p f0 f1 i).old, .string (repE p f0 f1 i).val] 80)) = w2 at *
  have c0 := cell_of_row w2 g 0 _ _ _ (HR.out)
  have c1 := cell_of_row w2 g 1 _ _ _ (HR.out)
  have c2 := cell_of_row w2 g 2 _ _ _ (HR.out)
  have c3 := cell_of_row w2 g 3 _ _ _ (HR.out)
  have c4 := cell_of_row w2 g 4 _ _ _ (HR.out)
  go_wp2_with fail
  refine (HNA.out _).mono ?_
  rintro e w3 ⟨rfl, hx⟩
  have HX := Lib.hid (HX.out.trans hx)
  clear hx
  go_wp2_with fail
  refine (HO.out _ (by simp) _).mono ?_
  rintro e w4 ⟨rfl, rfl⟩
  go_wp2_with fail
  go_ret
  exact ⟨rfl, HX.out⟩
set_option maxHeartbeats 400000 in
theorem next_n1 (p : Rec) (f0 f1 : CopL) (i : Int) (w : World) (hp : p.st ≤ 2) (h0 : f0.st ≤ 2) (h1 : f1.st ≤ 2) (hw : p.wh = 0 ∨ p.wh = 1) (hk : whereL p f0 f1 i = -1) (hn : namedL p = 1):
    Calls Tryz.prog 70 #[.agg #[.int .u8 (p.st : Int), .int .i64 p.ix, .int .i64 p.bx, .int .i64 p.yb, .int .i64 p.wh], .agg #[.int .u8 (f0.st : Int), .int .i64 f0.ix, .int .i64 f0.bx, .int .i64 f0.yb, .int .u8 (f0.e.k : Int), .int .i64 f0.e.cl, .int .i64 f0.e.sq, .int .u8 (f0.e.ok : Int), .string f0.e.key, .string f0.e.old, .string f0.e.val, .int .u8 (f1.st : Int), .int .i64 f1.ix, .int .i64 f1.bx, .int .i64 f1.yb, .int .u8 (f1.e.k : Int), .int .i64 f1.e.cl, .int .i64 f1.e.sq, .int .u8 (f1.e.ok : Int), .string f1.e.key, .string f1.e.old, .string f1.e.val], .int .i64 i] w fun e w' => e = .returned (.int .i64 0) ∧ Ext w w' := by
  have HWH := Lib.hid (fun V => what_of p f0 f1 i V hp h0 h1 hw)
  have HP := Lib.hid (next_pre w p f0 f1)
  have HNA := Lib.hid (named_of p hw)
  have HO := Lib.hid otherL_of
  rw [hk] at HWH
  rw [hn] at HNA
  clear hp h0 h1 hw hk hn
  go_enter Tryz.func70, Tryz.ntmps70
  go_upto_region 1 with (fail)
  generalize ((w.alloc (.cells #[.int .u8 (p.st : Int), .int .i64 p.ix, .int .i64 p.bx, .int .i64 p.yb, .int .i64 p.wh] 147)).alloc (.cells #[.int .u8 (f0.st : Int), .int .i64 f0.ix, .int .i64 f0.bx, .int .i64 f0.yb, .int .u8 (f0.e.k : Int), .int .i64 f0.e.cl, .int .i64 f0.e.sq, .int .u8 (f0.e.ok : Int), .string f0.e.key, .string f0.e.old, .string f0.e.val, .int .u8 (f1.st : Int), .int .i64 f1.ix, .int .i64 f1.bx, .int .i64 f1.yb, .int .u8 (f1.e.k : Int), .int .i64 f1.e.cl, .int .i64 f1.e.sq, .int .u8 (f1.e.ok : Int), .string f1.e.key, .string f1.e.old, .string f1.e.val] 150)) = W at *
  generalize w.heap.size + 1 = g1 at *
  generalize hg : w.heap.size = g at *
  have HG := Lib.hid hg
  clear hg
  have c0 := cell_of_row W g 0 _ _ _ (HP.out.1)
  have c1 := cell_of_row W g 1 _ _ _ (HP.out.1)
  have c2 := cell_of_row W g 2 _ _ _ (HP.out.1)
  have c3 := cell_of_row W g 3 _ _ _ (HP.out.1)
  have c4 := cell_of_row W g 4 _ _ _ (HP.out.1)
  obtain ⟨N, hN, hsz⟩ := size_two
  have hld := load_two hN HP.out.2.1
  have HNN := Lib.hid hN
  clear hN
  go_wp2_with fail
  refine (HWH.out W).mono ?_
  rintro e w1 ⟨rfl, hx⟩
  have HX := Lib.hid (((HP.out.2.2.trans hx).alloc (.cells #[.int .i64 i, .int .u8 (stateL p f0 f1 i : Nat), .int .i64 (repX p f0 f1 i), .int .i64 (repY p f0 f1 i), .int .u8 ((repE p f0 f1 i).k : Int), .int .i64 (repE p f0 f1 i).cl, .int .i64 (repE p f0 f1 i).sq, .int .u8 ((repE p f0 f1 i).ok : Int), .string (repE p f0 f1 i).key, .string (repE p f0 f1 i).old, .string (repE p f0 f1 i).val] 80)))
  have HR := Lib.hid ((HP.out.1.ext hx).ext ((Ext.refl w1).alloc (.cells #[.int .i64 i, .int .u8 (stateL p f0 f1 i : Nat), .int .i64 (repX p f0 f1 i), .int .i64 (repY p f0 f1 i), .int .u8 ((repE p f0 f1 i).k : Int), .int .i64 (repE p f0 f1 i).cl, .int .i64 (repE p f0 f1 i).sq, .int .u8 ((repE p f0 f1 i).ok : Int), .string (repE p f0 f1 i).key, .string (repE p f0 f1 i).old, .string (repE p f0 f1 i).val] 80)))
  clear hx hsz hld HNN c0 c1 c2 c3 c4
  go_upto_region 2 with (fail)
  generalize (w1.alloc (.cells #[.int .i64 i, .int .u8 (stateL p f0 f1 i : Nat), .int .i64 (repX p f0 f1 i), .int .i64 (repY p f0 f1 i), .int .u8 ((repE p f0 f1 i).k : Int), .int .i64 (repE p f0 f1 i).cl, .int .i64 (repE p f0 f1 i).sq, .int .u8 ((repE p f0 f1 i).ok : Int), .string (repE p f0 f1 i).key, .string (repE p f0 f1 i).old, .string (repE p f0 f1 i).val] 80)) = w2 at *
  have c0 := cell_of_row w2 g 0 _ _ _ (HR.out)
  have c1 := cell_of_row w2 g 1 _ _ _ (HR.out)
  have c2 := cell_of_row w2 g 2 _ _ _ (HR.out)
  have c3 := cell_of_row w2 g 3 _ _ _ (HR.out)
  have c4 := cell_of_row w2 g 4 _ _ _ (HR.out)
  go_wp2_with fail
  refine (HNA.out _).mono ?_
  rintro e w3 ⟨rfl, hx⟩
  have HX := Lib.hid (HX.out.trans hx)
  clear hx
  go_wp2_with fail
  refine (HO.out _ (by simp) _).mono ?_
  rintro e w4 ⟨rfl, rfl⟩
  go_wp2_with fail
  go_ret
  exact ⟨rfl, HX.out⟩
set_option maxHeartbeats 400000 in
theorem next_nn (p : Rec) (f0 f1 : CopL) (i : Int) (w : World) (hp : p.st ≤ 2) (h0 : f0.st ≤ 2) (h1 : f1.st ≤ 2) (hw : p.wh = 0 ∨ p.wh = 1) (hk : whereL p f0 f1 i = -1) (hn : namedL p = -1):
    Calls Tryz.prog 70 #[.agg #[.int .u8 (p.st : Int), .int .i64 p.ix, .int .i64 p.bx, .int .i64 p.yb, .int .i64 p.wh], .agg #[.int .u8 (f0.st : Int), .int .i64 f0.ix, .int .i64 f0.bx, .int .i64 f0.yb, .int .u8 (f0.e.k : Int), .int .i64 f0.e.cl, .int .i64 f0.e.sq, .int .u8 (f0.e.ok : Int), .string f0.e.key, .string f0.e.old, .string f0.e.val, .int .u8 (f1.st : Int), .int .i64 f1.ix, .int .i64 f1.bx, .int .i64 f1.yb, .int .u8 (f1.e.k : Int), .int .i64 f1.e.cl, .int .i64 f1.e.sq, .int .u8 (f1.e.ok : Int), .string f1.e.key, .string f1.e.old, .string f1.e.val], .int .i64 i] w fun e w' => e = .returned (.int .i64 0) ∧ Ext w w' := by
  have HWH := Lib.hid (fun V => what_of p f0 f1 i V hp h0 h1 hw)
  have HP := Lib.hid (next_pre w p f0 f1)
  have HNA := Lib.hid (named_of p hw)
  have HO := Lib.hid otherL_of
  rw [hk] at HWH
  rw [hn] at HNA
  clear hp h0 h1 hw hk hn
  go_enter Tryz.func70, Tryz.ntmps70
  go_upto_region 1 with (fail)
  generalize ((w.alloc (.cells #[.int .u8 (p.st : Int), .int .i64 p.ix, .int .i64 p.bx, .int .i64 p.yb, .int .i64 p.wh] 147)).alloc (.cells #[.int .u8 (f0.st : Int), .int .i64 f0.ix, .int .i64 f0.bx, .int .i64 f0.yb, .int .u8 (f0.e.k : Int), .int .i64 f0.e.cl, .int .i64 f0.e.sq, .int .u8 (f0.e.ok : Int), .string f0.e.key, .string f0.e.old, .string f0.e.val, .int .u8 (f1.st : Int), .int .i64 f1.ix, .int .i64 f1.bx, .int .i64 f1.yb, .int .u8 (f1.e.k : Int), .int .i64 f1.e.cl, .int .i64 f1.e.sq, .int .u8 (f1.e.ok : Int), .string f1.e.key, .string f1.e.old, .string f1.e.val] 150)) = W at *
  generalize w.heap.size + 1 = g1 at *
  generalize hg : w.heap.size = g at *
  have HG := Lib.hid hg
  clear hg
  have c0 := cell_of_row W g 0 _ _ _ (HP.out.1)
  have c1 := cell_of_row W g 1 _ _ _ (HP.out.1)
  have c2 := cell_of_row W g 2 _ _ _ (HP.out.1)
  have c3 := cell_of_row W g 3 _ _ _ (HP.out.1)
  have c4 := cell_of_row W g 4 _ _ _ (HP.out.1)
  obtain ⟨N, hN, hsz⟩ := size_two
  have hld := load_two hN HP.out.2.1
  have HNN := Lib.hid hN
  clear hN
  go_wp2_with fail
  refine (HWH.out W).mono ?_
  rintro e w1 ⟨rfl, hx⟩
  have HX := Lib.hid (((HP.out.2.2.trans hx).alloc (.cells #[.int .i64 i, .int .u8 (stateL p f0 f1 i : Nat), .int .i64 (repX p f0 f1 i), .int .i64 (repY p f0 f1 i), .int .u8 ((repE p f0 f1 i).k : Int), .int .i64 (repE p f0 f1 i).cl, .int .i64 (repE p f0 f1 i).sq, .int .u8 ((repE p f0 f1 i).ok : Int), .string (repE p f0 f1 i).key, .string (repE p f0 f1 i).old, .string (repE p f0 f1 i).val] 80)))
  have HR := Lib.hid ((HP.out.1.ext hx).ext ((Ext.refl w1).alloc (.cells #[.int .i64 i, .int .u8 (stateL p f0 f1 i : Nat), .int .i64 (repX p f0 f1 i), .int .i64 (repY p f0 f1 i), .int .u8 ((repE p f0 f1 i).k : Int), .int .i64 (repE p f0 f1 i).cl, .int .i64 (repE p f0 f1 i).sq, .int .u8 ((repE p f0 f1 i).ok : Int), .string (repE p f0 f1 i).key, .string (repE p f0 f1 i).old, .string (repE p f0 f1 i).val] 80)))
  clear hx hsz hld HNN c0 c1 c2 c3 c4
  go_upto_region 2 with (fail)
  generalize (w1.alloc (.cells #[.int .i64 i, .int .u8 (stateL p f0 f1 i : Nat), .int .i64 (repX p f0 f1 i), .int .i64 (repY p f0 f1 i), .int .u8 ((repE p f0 f1 i).k : Int), .int .i64 (repE p f0 f1 i).cl, .int .i64 (repE p f0 f1 i).sq, .int .u8 ((repE p f0 f1 i).ok : Int), .string (repE p f0 f1 i).key, .string (repE p f0 f1 i).old, .string (repE p f0 f1 i).val] 80)) = w2 at *
  have c0 := cell_of_row w2 g 0 _ _ _ (HR.out)
  have c1 := cell_of_row w2 g 1 _ _ _ (HR.out)
  have c2 := cell_of_row w2 g 2 _ _ _ (HR.out)
  have c3 := cell_of_row w2 g 3 _ _ _ (HR.out)
  have c4 := cell_of_row w2 g 4 _ _ _ (HR.out)
  go_wp2_with fail
  refine (HNA.out _).mono ?_
  rintro e w3 ⟨rfl, hx⟩
  have HX := Lib.hid (HX.out.trans hx)
  clear hx
  go_wp2_with fail
  go_ret
  exact ⟨rfl, HX.out⟩
theorem next_of (p : Rec) (f0 f1 : CopL) (i : Int) (w : World) (hp : p.st ≤ 2) (h0 : f0.st ≤ 2) (h1 : f1.st ≤ 2) (hw : p.wh = 0 ∨ p.wh = 1) :
    Calls Tryz.prog 70 #[.agg #[.int .u8 (p.st : Int), .int .i64 p.ix, .int .i64 p.bx, .int .i64 p.yb, .int .i64 p.wh], .agg #[.int .u8 (f0.st : Int), .int .i64 f0.ix, .int .i64 f0.bx, .int .i64 f0.yb, .int .u8 (f0.e.k : Int), .int .i64 f0.e.cl, .int .i64 f0.e.sq, .int .u8 (f0.e.ok : Int), .string f0.e.key, .string f0.e.old, .string f0.e.val, .int .u8 (f1.st : Int), .int .i64 f1.ix, .int .i64 f1.bx, .int .i64 f1.yb, .int .u8 (f1.e.k : Int), .int .i64 f1.e.cl, .int .i64 f1.e.sq, .int .u8 (f1.e.ok : Int), .string f1.e.key, .string f1.e.old, .string f1.e.val], .int .i64 i] w fun e w' => e = .returned (.int .i64 (nextL p f0 f1 i)) ∧ Ext w w' := by
  rcases whereL_of (p := p) (f0 := f0) (f1 := f1) (i := i) with h | ⟨h, _⟩ | ⟨h, _⟩
  · by_cases hs : p.st = 1
    · have hn : namedL p = p.wh := if_pos hs
      rcases hw with hz | hz
      · rw [show nextL p f0 f1 i = 1 from by unfold nextL; rw [h, if_neg (by omega), if_pos ⟨hs, hz⟩]]
        exact next_n0 p f0 f1 i w hp h0 h1 (.inl hz) h (hn.trans hz)
      · rw [show nextL p f0 f1 i = 0 from by unfold nextL; rw [h, if_neg (by omega), if_neg (by omega)]]
        exact next_n1 p f0 f1 i w hp h0 h1 (.inr hz) h (hn.trans hz)
    · rw [show nextL p f0 f1 i = 0 from by unfold nextL; rw [h, if_neg (by omega), if_neg (by omega)]]
      exact next_nn p f0 f1 i w hp h0 h1 hw h (if_neg hs)
  · rw [show nextL p f0 f1 i = 1 from by unfold nextL; rw [h]; rfl]
    exact next_0 p f0 f1 i w hp h0 h1 hw h
  · rw [show nextL p f0 f1 i = 0 from by unfold nextL; rw [h]; rfl]
    exact next_1 p f0 f1 i w hp h0 h1 hw h
end
section
open Go Go.RowKit
section
variable {w W W' : World} {g g1 g2 g3 g4 : Nat} {rv tv zr zt : Array Value} {r : Int}
end
end
end Go.Proofs.YtmbmpabjclkhlaaGreatDoor
