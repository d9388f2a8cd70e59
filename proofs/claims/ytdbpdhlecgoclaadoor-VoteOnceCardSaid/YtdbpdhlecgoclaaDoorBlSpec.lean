/-
  Ballots in plain words: which is less, the greatest of a list, which may be, the next one of a replica.
-/
import Derived.Test.YtdbpdhlecgoclaaDoorULists
namespace Go.Proofs.YtdbpdhlecgoclaaDoor
set_option maxRecDepth 100000
open Go Go.RowKit

/-- Is one ballot less than another? -/
def ltB (a b : Bal) : Bool := decide (a.x < b.x ∨ a.x = b.x ∧ a.y < b.y)
theorem ltB_iff {a b : Bal} : ltB a b = true ↔ a.x < b.x ∨ a.x = b.x ∧ a.y < b.y := decide_eq_true_iff
theorem ltB_not {a b : Bal} : ltB a b = false ↔ ¬ (a.x < b.x ∨ a.x = b.x ∧ a.y < b.y) := decide_eq_false_iff_not
theorem ltB_self (a : Bal) : ltB a a = false := ltB_not.2 (by omega)
theorem ltB_eq {a b : Bal} (h1 : ltB a b = false) (h2 : ltB b a = false) : a = b := by
  rw [ltB_not] at h1 h2
  obtain ⟨x, y⟩ := a
  obtain ⟨x', y'⟩ := b
  dsimp only at h1 h2
  obtain rfl : x = x' := by omega
  obtain rfl : y = y' := by omega
  rfl
theorem ltB_le {a b c : Bal} (h1 : ltB a b = false) (h2 : ltB b c = false) : ltB a c = false := by
  rw [ltB_not] at *
  omega
/-- The greatest of one and of those of a list. -/
def upB (g : Bal) (l : List Bal) : Bal := l.foldl (fun g x => if ltB g x then x else g) g
def maxB : List Bal → Bal
  | [] => ⟨0, 0⟩
  | a :: l => upB a l
theorem upB_cons (g a : Bal) (l : List Bal) : upB g (a :: l) = upB (if ltB g a then a else g) l := rfl
theorem upB_skip {g : Bal} : ∀ {l : List Bal} {i : Nat}, (∀ (j : Nat) (b : Bal), j < i → l[j]? = some b → ltB g b = false) → upB g l = upB g (l.drop i)
  | l, 0, _ => by rw [List.drop_zero]
  | [], i + 1, _ => by rw [List.drop_nil]
  | a :: l, i + 1, h => by
    rw [upB_cons, h 0 a (by omega) rfl, if_neg (by decide), List.drop_succ_cons]
    exact upB_skip (l := l) (i := i) fun j b hj hb => h (j + 1) b (by omega) hb
theorem upB_none {g : Bal} {l : List Bal} (h : ∀ (j : Nat) (b : Bal), l[j]? = some b → ltB g b = false) : upB g l = g := by
  rw [upB_skip (l := l) (i := l.length) (fun j b _ hb => h j b hb), List.drop_length]
  rfl
theorem upB_take {g b : Bal} {l : List Bal} {i : Nat} (h : ∀ (j : Nat) (b : Bal), j < i → l[j]? = some b → ltB g b = false) (hb : l[i]? = some b) (hl : ltB g b = true) : upB g l = upB b (l.drop (i + 1)) := by
  rw [upB_skip (l := l) (i := i) h, List.drop_eq_getElem_cons (List.getElem?_eq_some_iff.1 hb).1, (List.getElem?_eq_some_iff.1 hb).2, upB_cons, if_pos hl]
theorem upB_ge : ∀ (l : List Bal) (g : Bal), ltB (upB g l) g = false ∧ ∀ x ∈ l, ltB (upB g l) x = false
  | [], g => ⟨ltB_self g, fun x h => by cases h⟩
  | a :: l, g => by
    obtain ⟨h1, h2⟩ := upB_ge l (if ltB g a then a else g)
    rw [upB_cons]
    cases hl : ltB g a with
    | true =>
      rw [hl, if_pos rfl] at h1 h2
      rw [if_pos rfl]
      have hg : ltB a g = false := by rw [ltB_iff] at hl; rw [ltB_not]; omega
      exact ⟨ltB_le h1 hg, fun x hx => (List.mem_cons.1 hx).elim (fun e => by rw [e]; exact h1) (h2 x)⟩
    | false =>
      rw [hl, if_neg (by decide)] at h1 h2
      rw [if_neg (by decide)]
      exact ⟨h1, fun x hx => (List.mem_cons.1 hx).elim (fun e => by rw [e]; exact ltB_le h1 hl) (h2 x)⟩
theorem upB_mem : ∀ (l : List Bal) (g : Bal), upB g l = g ∨ upB g l ∈ l
  | [], g => .inl rfl
  | a :: l, g => by
    rw [upB_cons]
    cases hl : ltB g a with
    | true =>
      rw [if_pos rfl]
      rcases upB_mem l a with h | h
      · exact .inr (by rw [h]; exact List.mem_cons_self ..)
      · exact .inr (List.mem_cons_of_mem _ h)
    | false =>
      rw [if_neg (by decide)]
      rcases upB_mem l g with h | h
      · exact .inl h
      · exact .inr (List.mem_cons_of_mem _ h)
theorem maxB_ge {l : List Bal} {x : Bal} (h : x ∈ l) : ltB (maxB l) x = false := by
  cases l with
  | nil => cases h
  | cons a l => exact (List.mem_cons.1 h).elim (fun e => by rw [e]; exact (upB_ge l a).1) ((upB_ge l a).2 x)
theorem maxB_mem {l : List Bal} (h : l ≠ []) : maxB l ∈ l := by
  cases l with
  | nil => exact absurd rfl h
  | cons a l =>
    rcases upB_mem l a with h | h
    · show upB a l ∈ _
      rw [h]
      exact List.mem_cons_self ..
    · exact List.mem_cons_of_mem _ h
theorem maxB_is {l : List Bal} {m : Bal} (h : m ∈ l) (hm : ∀ x ∈ l, ltB m x = false) : maxB l = m :=
  ltB_eq (maxB_ge h) (hm _ (maxB_mem fun e => by rw [e] at h; cases h))
theorem maxB_same {l k : List Bal} (hl : l ≠ []) (h : ∀ x, x ∈ l ↔ x ∈ k) : maxB l = maxB k :=
  (maxB_is ((h _).1 (maxB_mem hl)) fun x hx => maxB_ge ((h x).2 hx)).symm
/-- May there be so many replicas? -/
def crowdB (n : Int) : Bool := decide (n = 3 ∨ n = 5 ∨ n = 7)
theorem crowdB_iff {n : Int} : crowdB n = true ↔ n = 3 ∨ n = 5 ∨ n = 7 := decide_eq_true_iff
/-- Is it a ballot of n replicas? -/
def mayB_ (b : Bal) (n : Int) : Bool := crowdB n && (decide (b.x = 0 ∧ b.y = 0) || decide (1 ≤ b.x ∧ b.x ≤ 1099511627776 ∧ 0 ≤ b.y ∧ b.y < n))
theorem mayB_iff {b : Bal} {n : Int} : mayB_ b n = true ↔ (n = 3 ∨ n = 5 ∨ n = 7) ∧ ((b.x = 0 ∧ b.y = 0) ∨ (1 ≤ b.x ∧ b.x ≤ 1099511627776 ∧ 0 ≤ b.y ∧ b.y < n)) := by
  unfold mayB_
  rw [Bool.and_eq_true, Bool.or_eq_true, crowdB_iff, decide_eq_true_iff, decide_eq_true_iff]
/-- The next ballot of a replica, and the error. -/
def okB (b : Bal) (r n : Int) : Bool := mayB_ b n && decide (0 ≤ r ∧ r < n)
theorem okB_iff {b : Bal} {r n : Int} : okB b r n = true ↔ ((n = 3 ∨ n = 5 ∨ n = 7) ∧ ((b.x = 0 ∧ b.y = 0) ∨ (1 ≤ b.x ∧ b.x ≤ 1099511627776 ∧ 0 ≤ b.y ∧ b.y < n))) ∧ 0 ≤ r ∧ r < n := by
  unfold okB
  rw [Bool.and_eq_true, mayB_iff, decide_eq_true_iff]
def roundB (b : Bal) (r : Int) : Int := if b.x = 0 then 1 else if b.y < r then b.x else b.x + 1
def nextB (b : Bal) (r n : Int) : Bal := if okB b r n then (if roundB b r ≤ 1099511627776 then ⟨roundB b r, r⟩ else ⟨0, 0⟩) else ⟨0, 0⟩
def errB (b : Bal) (r n : Int) : Int := if okB b r n then (if roundB b r ≤ 1099511627776 then 0 else 4) else 2
end Go.Proofs.YtdbpdhlecgoclaaDoor
