/-
  Sets of replicas in plain words: which numbers are in one, what is added, which are below n, whether they are a majority.
-/
import Derived.Test.YtmnldkfkcfnkdaaBytes
namespace Go.Proofs.Ytmnldkfkcfnkdaa
set_option maxRecDepth 100000
open Go Go.RowKit

def mostQ (n : Int) : Nat := if n = 3 then 2 else if n = 5 then 3 else if n = 7 then 4 else 0
def hasQ (s : Nat) (i : Int) : Bool := decide (0 ≤ i ∧ i < 7) && s.testBit i.toNat
def addQ (s : Nat) (i : Int) : Nat := if 0 ≤ i ∧ i < 7 then s ||| 2 ^ i.toNat else s
def memQ (s n : Nat) : List Nat := (List.range n).filter s.testBit
def membersQ (s : Nat) (n : Int) : List Nat := if mostQ n = 0 then [] else memQ s n.toNat
def enoughQ (s : Nat) (n : Int) : Bool := decide (0 < mostQ n ∧ mostQ n ≤ (membersQ s n).length)
def ofQ (s : Nat) (l : List Int) : Nat := l.foldl addQ s
theorem memQ_succ (s n : Nat) : memQ s (n + 1) = if s.testBit n = true then memQ s n ++ [n] else memQ s n := by
  unfold memQ
  rw [List.range_succ, List.filter_append]
  split
  · rename_i h; simp [h]
  · rename_i h; simp [h]
theorem memQ_len (s n : Nat) : (memQ s n).length ≤ n := by
  unfold memQ
  refine Nat.le_trans (List.length_filter_le _ _) ?_
  simp
theorem memQ_mem {s n i : Nat} : i ∈ memQ s n ↔ i < n ∧ s.testBit i = true := by simp [memQ]
theorem mostQ_cases {n : Int} (h : mostQ n ≠ 0) : n = 3 ∨ n = 5 ∨ n = 7 := by
  unfold mostQ at h
  split at h
  · left; assumption
  · split at h
    · right; left; assumption
    · split at h
      · right; right; assumption
      · exact absurd rfl h
theorem count_both (a b : Nat → Bool) : ∀ n : Nat, ((List.range n).filter a).length + ((List.range n).filter b).length ≤ n + ((List.range n).filter fun i => a i && b i).length
  | 0 => by simp
  | n + 1 => by
    have ih := count_both a b n
    simp only [List.range_succ, List.filter_append, List.length_append, List.filter_cons, List.filter_nil]
    cases a n <;> cases b n <;> simp <;> omega
/-- Two majorities have a replica in common. -/
theorem meetQ {a b n : Nat} (ha : n / 2 + 1 ≤ (memQ a n).length) (hb : n / 2 + 1 ≤ (memQ b n).length) : ∃ i, i < n ∧ a.testBit i = true ∧ b.testBit i = true := by
  have h := count_both a.testBit b.testBit n
  cases hc : (List.range n).filter fun i => a.testBit i && b.testBit i with
  | nil =>
    rw [hc] at h
    unfold memQ at ha hb
    simp at h
    omega
  | cons i l =>
    have hm : i ∈ (List.range n).filter fun i => a.testBit i && b.testBit i := by rw [hc]; exact List.mem_cons_self
    rw [List.mem_filter, List.mem_range, Bool.and_eq_true] at hm
    exact ⟨i, hm.1, hm.2.1, hm.2.2⟩
set_option maxRecDepth 100000 in
theorem not_len : ∀ a : Fin 256, ∀ n : Fin 8, (memQ a.1 n.1).length + (memQ (255 - a.1) n.1).length = n.1 := by decide +kernel
set_option maxRecDepth 100000 in
theorem xor_not : ∀ a : Fin 256, (a.1 ^^^ 255) = 255 - a.1 := by decide +kernel
set_option maxRecDepth 100000 in
theorem add_len : ∀ a : Fin 256, ∀ i : Fin 7, ∀ n : Fin 8, (memQ a.1 n.1).length ≤ (memQ (a.1 ||| 2 ^ i.1) n.1).length := by decide +kernel
set_option maxRecDepth 100000 in
theorem of_take : ∀ a : Fin 256, ∀ m : Fin 8, ∀ n : Fin 8, m.1 ≤ (memQ a.1 n.1).length → (memQ (ofQ 0 (((memQ a.1 n.1).take m.1).map fun k : Nat => (k : Int))) n.1).length = m.1 := by decide +kernel
set_option maxRecDepth 100000 in
theorem add_lt : ∀ a : Fin 256, ∀ i : Fin 7, a.1 ||| 2 ^ i.1 < 256 := by decide +kernel
set_option maxRecDepth 100000 in
theorem has_div : ∀ a : Fin 256, ∀ i : Fin 7, decide ((a.1 / 2 ^ i.1) % 2 = 1) = a.1.testBit i.1 := by decide +kernel
end Go.Proofs.Ytmnldkfkcfnkdaa
