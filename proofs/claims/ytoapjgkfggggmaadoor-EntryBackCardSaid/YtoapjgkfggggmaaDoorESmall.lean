/-
  The contracts of entry's small functions: isWithin, mayBallot, limits, texts and its methods.
-/
import Derived.Test.YtoapjgkfggggmaaDoorEScan
import Derived.Test.YtoapjgkfggggmaaDoorSC
import Derived.Deep.RegionHeld3
import Derived.Laws.EntriesVeiled
namespace Go.Proofs.YtoapjgkfggggmaaDoor
open Go Go.RowKit

theorem within_any (a n b : Int) (w : World) :
    Calls Tryd.prog 34 #[.int .i64 a, .int .i64 n, .int .i64 b] w fun e w' => e = .returned (.bool (decide (a ≤ n) && decide (n ≤ b))) ∧ w' = w := by
  cases h1 : decide (a ≤ n) <;> cases h2 : decide (n ≤ b)
  all_goals
    go_enter Tryd.func34, Tryd.ntmps34
    go_wp2_with fail
    go_ret
    exact ⟨rfl, rfl⟩
/-- The most that a kind's texts may have. -/
def limK (k : Nat) : Int := if 1 ≤ k ∧ k ≤ 4 then 8 else 0
def limO (k : Nat) : Int := if k = 4 then 16 else 0
def limV (k : Nat) : Int := if k = 4 ∨ k = 2 then 16 else 0
set_option maxHeartbeats 600000 in
theorem limits_any (k : Nat) (w : World) :
    Calls Tryd.prog 32 #[.int .u8 (k : Int)] w fun e w' => e = .returned (.agg #[.int .i64 (limK k), .int .i64 (limO k), .int .i64 (limV k)]) ∧ Ext w w' := by
  by_cases h4 : k = 4
  · subst h4
    try clear h4
    try clear h2
    try clear h1
    go_enter Tryd.func32, Tryd.ntmps32
    go_wp2_with fail
    refine bodyPost_ret (v := .agg #[.int .i64 8, .int .i64 16, .int .i64 16]) ?_ rfl ⟨rfl, (Ext.refl w).alloc _⟩
    simp [results, Tryd.results32, go_sem]
  by_cases h2 : k = 2
  · subst h2
    try clear h4
    try clear h2
    try clear h1
    go_enter Tryd.func32, Tryd.ntmps32
    go_wp2_with fail
    refine bodyPost_ret (v := .agg #[.int .i64 8, .int .i64 0, .int .i64 16]) ?_ rfl ⟨rfl, (Ext.refl w).alloc _⟩
    simp [results, Tryd.results32, go_sem]
  by_cases h1 : k = 1
  · subst h1
    try clear h4
    try clear h2
    try clear h1
    go_enter Tryd.func32, Tryd.ntmps32
    go_wp2_with fail
    refine bodyPost_ret (v := .agg #[.int .i64 8, .int .i64 0, .int .i64 0]) ?_ rfl ⟨rfl, (Ext.refl w).alloc _⟩
    simp [results, Tryd.results32, go_sem]
  by_cases h3 : k = 3
  · subst h3
    try clear h4
    try clear h2
    try clear h1
    go_enter Tryd.func32, Tryd.ntmps32
    go_wp2_with fail
    refine bodyPost_ret (v := .agg #[.int .i64 8, .int .i64 0, .int .i64 0]) ?_ rfl ⟨rfl, (Ext.refl w).alloc _⟩
    simp [results, Tryd.results32, go_sem]
  · have e1 : limK k = 0 := if_neg (by omega)
    have e2 : limO k = 0 := if_neg (by omega)
    have e3 : limV k = 0 := if_neg (by omega)
    rw [e1, e2, e3]
    have g4 : ((k : Int) == 4) = false := by rw [beq_eq_false_iff_ne]; omega
    have g2 : ((k : Int) == 2) = false := by rw [beq_eq_false_iff_ne]; omega
    have g1 : ((k : Int) == 1) = false := by rw [beq_eq_false_iff_ne]; omega
    have g3 : ((k : Int) == 3) = false := by rw [beq_eq_false_iff_ne]; omega
    clear e1 e2 e3 h4 h2 h1 h3
    go_enter Tryd.func32, Tryd.ntmps32
    go_wp2_with fail
    refine bodyPost_ret (v := .agg #[.int .i64 0, .int .i64 0, .int .i64 0]) ?_ rfl ⟨rfl, (Ext.refl w).alloc _⟩
    simp [results, Tryd.results32, go_sem]
theorem texts_any (w : World) :
    Calls Tryd.prog 33 #[] w fun e w' => e = .returned (.agg #[.func (.func 43) #[] #[], .func (.func 44) #[] #[], .func (.func 45) #[] #[]]) ∧ Ext w w' := by
  go_enter Tryd.func33, Tryd.ntmps33
  go_wp2_with fail
  refine bodyPost_ret (v := .agg #[.func (.func 43) #[] #[], .func (.func 44) #[] #[], .func (.func 45) #[] #[]]) ?_ rfl ⟨rfl, (Ext.refl w).alloc _⟩
  simp [results, Tryd.results33, go_sem]
theorem texts_at0 (w : World) : (Instr.index 68 (.agg #[.func (.func 43) #[] #[], .func (.func 44) #[] #[], .func (.func 45) #[] #[]]) (.int .i64 0)).run Tryd.prog w = .ok (.func (.func 43) #[] #[]) w := by show _ = _; kernel_rfl
theorem texts_at1 (w : World) : (Instr.index 68 (.agg #[.func (.func 43) #[] #[], .func (.func 44) #[] #[], .func (.func 45) #[] #[]]) (.int .i64 1)).run Tryd.prog w = .ok (.func (.func 44) #[] #[]) w := by show _ = _; kernel_rfl
theorem texts_at2 (w : World) : (Instr.index 68 (.agg #[.func (.func 43) #[] #[], .func (.func 44) #[] #[], .func (.func 45) #[] #[]]) (.int .i64 2)).run Tryd.prog w = .ok (.func (.func 45) #[] #[]) w := by show _ = _; kernel_rfl
theorem key_of (g : Nat) (w : World) :
    Calls Tryd.prog 43 #[.pointer (some ⟨g, 0, none⟩)] w fun e w' => e = .returned (.pointer (some ⟨g, 1, none⟩)) ∧ w' = w := by
  go_enter Tryd.func43, Tryd.ntmps43
  go_wp2_with fail
  go_ret
  exact ⟨rfl, rfl⟩
theorem old_of (g : Nat) (w : World) :
    Calls Tryd.prog 44 #[.pointer (some ⟨g, 0, none⟩)] w fun e w' => e = .returned (.pointer (some ⟨g, 2, none⟩)) ∧ w' = w := by
  go_enter Tryd.func44, Tryd.ntmps44
  go_wp2_with fail
  go_ret
  exact ⟨rfl, rfl⟩
theorem val_of (g : Nat) (w : World) :
    Calls Tryd.prog 45 #[.pointer (some ⟨g, 0, none⟩)] w fun e w' => e = .returned (.pointer (some ⟨g, 3, none⟩)) ∧ w' = w := by
  go_enter Tryd.func45, Tryd.ntmps45
  go_wp2_with fail
  go_ret
  exact ⟨rfl, rfl⟩
set_option maxHeartbeats 600000 in
theorem mayBallot_any (x y : Int) (w : World) :
    Calls Tryd.prog 30 #[.agg #[.int .i64 x, .int .i64 y]] w fun e w' => e = .returned (.bool (balE x y)) ∧ Ext w w' := by
  have HE := Lib.hid ((Ext.refl w).alloc (.cells #[.int .i64 x, .int .i64 y] 23))
  have hb : balE x y = ((decide (1 ≤ x) && decide (x ≤ 1099511627776)) && (decide (0 ≤ y) && decide (y ≤ 6))) := by
    rw [Bool.eq_iff_iff, balE_iff]
    simp [and_assoc]
  have HB := Lib.hid hb
  rw [hb]
  clear hb
  cases h1 : (decide (1 ≤ x) && decide (x ≤ 1099511627776))
  all_goals
    have H1 := Lib.hid h1
    clear h1
    go_enter Tryd.func30, Tryd.ntmps30
    go_wp2_with fail
    refine (within_any _ _ _ _).mono ?_
    rw [H1.out]
    rintro e w1 ⟨rfl, rfl⟩
    go_wp2_with (refine (within_any _ _ _ _).mono ?_; rintro e w1 ⟨rfl, rfl⟩)
    go_ret
    exact ⟨rfl, HE.out⟩
end Go.Proofs.YtoapjgkfggggmaaDoor
