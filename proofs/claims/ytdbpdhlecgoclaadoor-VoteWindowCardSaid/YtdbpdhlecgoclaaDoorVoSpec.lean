/-
  What a replica promises, where a slot is, what is done of a request: in plain words.
-/
import Derived.Test.YtdbpdhlecgoclaaDoorBlSpec
namespace Go.Proofs.YtdbpdhlecgoclaaDoor
open Go Go.RowKit

/-- Is b promised, where p was? -/
def yesV (p b : Bal) : Bool := !decide (b.x = 0 ∧ b.y = 0) && !ltB b p
/-- What is promised then. -/
def thenV (p b : Bal) : Bal := if yesV p b then b else p
/-- May these indices be? -/
def inV (s i : Int) : Prop := 0 ≤ s ∧ s ≤ 1099511627776 ∧ 1 ≤ i ∧ i ≤ 1099511627776
instance (s i : Int) : Decidable (inV s i) := inferInstanceAs (Decidable (_ ∧ _))
/-- The error, and where a slot is. -/
def errV (s i : Int) : Int := if inV s i then 0 else 2
def whV (s i : Int) : Int := if inV s i then (if i ≤ s then 0 else if i ≤ s + 24 then 1 else 2) else 0
/-- What is done of a request. -/
def ansV (wh : Int) : Int := if wh = 0 then 1 else if wh = 1 then 3 else 2
def doV (p : Bal) (s : Int) (b : Bal) (i : Int) : Int := if inV s i then (if yesV p b then ansV (whV s i) else 0) else 0
def nowV (p : Bal) (s : Int) (b : Bal) (i : Int) : Bal := if inV s i then thenV p b else ⟨0, 0⟩
theorem yesV_none {p : Bal} : yesV p ⟨0, 0⟩ = false := rfl
theorem yesV_iff {p b : Bal} : yesV p b = true ↔ ¬ (b.x = 0 ∧ b.y = 0) ∧ ltB b p = false := by
  unfold yesV
  rw [Bool.and_eq_true, Bool.not_eq_true', Bool.not_eq_true', decide_eq_false_iff_not]
theorem yesV_not {p b : Bal} : yesV p b = false ↔ (b.x = 0 ∧ b.y = 0) ∨ ltB b p = true := by
  rw [← Bool.not_eq_true, yesV_iff]
  cases ltB b p <;> simp
/-- The ways that Promise goes. -/
theorem promV_ways (p b : Bal) : (b = ⟨0, 0⟩ ∧ yesV p b = false ∧ thenV p b = p) ∨ (¬ (b.x = 0 ∧ b.y = 0) ∧ ltB b p = true ∧ yesV p b = false ∧ thenV p b = p) ∨ (¬ (b.x = 0 ∧ b.y = 0) ∧ ltB b p = false ∧ yesV p b = true ∧ thenV p b = b) := by
  obtain ⟨x, y⟩ := b
  by_cases h0 : x = 0 ∧ y = 0
  · obtain ⟨rfl, rfl⟩ := h0
    exact .inl ⟨rfl, rfl, rfl⟩
  · cases hl : ltB ⟨x, y⟩ p with
    | true =>
      have hy : yesV p ⟨x, y⟩ = false := yesV_not.2 (.inr hl)
      exact .inr (.inl ⟨h0, rfl, hy, by unfold thenV; rw [hy]; rfl⟩)
    | false =>
      have hy : yesV p ⟨x, y⟩ = true := yesV_iff.2 ⟨h0, hl⟩
      exact .inr (.inr ⟨h0, rfl, hy, by unfold thenV; rw [hy]; rfl⟩)
theorem errV_two (s i : Int) : (inV s i ∧ errV s i = 0) ∨ (¬ inV s i ∧ errV s i = 2 ∧ whV s i = 0) := by
  by_cases h : inV s i
  · exact .inl ⟨h, if_pos h⟩
  · exact .inr ⟨h, if_neg h, if_neg h⟩
theorem whV_three (s i : Int) (h : inV s i) : (i ≤ s ∧ whV s i = 0) ∨ (¬ i ≤ s ∧ i ≤ s + 24 ∧ whV s i = 1) ∨ (¬ i ≤ s ∧ ¬ i ≤ s + 24 ∧ whV s i = 2) := by
  unfold whV
  rw [if_pos h]
  by_cases h1 : i ≤ s
  · exact .inl ⟨h1, if_pos h1⟩
  · by_cases h2 : i ≤ s + 24
    · exact .inr (.inl ⟨h1, h2, by rw [if_neg h1, if_pos h2]⟩)
    · exact .inr (.inr ⟨h1, h2, by rw [if_neg h1, if_neg h2]⟩)
/-- What is promised once is promised again. -/
theorem yesV_again (p b : Bal) : yesV (thenV p b) b = yesV p b ∧ thenV (thenV p b) b = thenV p b := by
  rcases promV_ways p b with ⟨rfl, h2, h3⟩ | ⟨_, _, h2, h3⟩ | ⟨h1, h, h2, h3⟩
  · rw [h3, h2]
    exact ⟨rfl, h3⟩
  · rw [h3, h2]
    exact ⟨rfl, h3⟩
  · have h4 : yesV b b = true := yesV_iff.2 ⟨h1, ltB_self b⟩
    rw [h3, h2, h4]
    exact ⟨rfl, by unfold thenV; rw [h4]; rfl⟩
/-- What was promised never falls; what is promised isn't less; what isn't changes nothing. -/
theorem thenV_ge (p b : Bal) : ltB (thenV p b) p = false ∧ (yesV p b = true → thenV p b = b ∧ ¬ (b.x = 0 ∧ b.y = 0) ∧ ltB b p = false) ∧ (yesV p b = false → thenV p b = p) := by
  rcases promV_ways p b with ⟨_, h2, h3⟩ | ⟨_, _, h2, h3⟩ | ⟨h1, h, h2, h3⟩
  · rw [h3, h2]
    exact ⟨ltB_self _, fun h => (by cases h), fun _ => rfl⟩
  · rw [h3, h2]
    exact ⟨ltB_self _, fun h => (by cases h), fun _ => rfl⟩
  · rw [h3, h2]
    exact ⟨h, fun _ => ⟨rfl, h1, h⟩, fun h => (by cases h)⟩
/-- The greatest that was refused is less than what is promised, or none. -/
def WorstV (now worst : Bal) : Prop := (worst.x = 0 ∧ worst.y = 0) ∨ ltB worst now = true
theorem WorstV.yes {p b worst : Bal} (h : WorstV p worst) (hy : yesV p b = true) (hw : ¬ (worst.x = 0 ∧ worst.y = 0)) : ltB worst b = true := by
  rcases h with h | h
  · exact absurd h hw
  · obtain ⟨_, h2⟩ := yesV_iff.1 hy
    rw [ltB_iff] at h ⊢
    rw [ltB_not] at h2
    omega
theorem WorstV.step {p b worst : Bal} (h : WorstV p worst) (hy : yesV p b = true) : WorstV (thenV p b) worst := by
  rcases h with h | h
  · exact .inl h
  · refine .inr ?_
    rw [((thenV_ge p b).2.1 hy).1]
    by_cases hw : worst.x = 0 ∧ worst.y = 0
    · obtain ⟨_, h2⟩ := yesV_iff.1 hy
      rw [ltB_iff] at h ⊢
      rw [ltB_not] at h2
      omega
    · exact WorstV.yes (.inr h) hy hw
theorem WorstV.refused {p b : Bal} (hy : yesV p b = false) : WorstV p b := by
  rcases yesV_not.1 hy with h2 | h2
  · exact .inl h2
  · exact .inr h2
end Go.Proofs.YtdbpdhlecgoclaaDoor
