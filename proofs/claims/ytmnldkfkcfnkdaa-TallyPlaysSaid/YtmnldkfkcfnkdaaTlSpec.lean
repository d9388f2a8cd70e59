/-
  A tally in plain words: its rows (a slot's index, and the set of those that accepted there), what a note does, how many have accepted, up to where there is a majority, what is dropped.
-/
import Derived.Test.YtmnldkfkcfnkdaaQuSpec
namespace Go.Proofs.Ytmnldkfkcfnkdaa
open Go Go.RowKit

def lookT : List (Int × Nat) → Int → Nat
  | [], _ => 0
  | p :: L, k => if p.1 = k then p.2 else lookT L k
def setT : List (Int × Nat) → Int → Nat → List (Int × Nat)
  | [], k, s => [(k, s)]
  | p :: L, k, s => if p.1 = k then (k, s) :: L else p :: setT L k s
def dropT (L : List (Int × Nat)) (i : Int) : List (Int × Nat) := L.filter fun p => decide (i < p.1)
def argT (n i r : Int) : Bool := decide (1 ≤ i ∧ i ≤ 1099511627776 ∧ 0 ≤ r ∧ r < n)
def errT (n : Int) (L : List (Int × Nat)) (i r : Int) : Nat := if argT n i r = true then (if lookT L i = 0 ∧ 64 ≤ L.length then 4 else 0) else 2
def noteT (n : Int) (L : List (Int × Nat)) (i r : Int) : List (Int × Nat) := if errT n L i r = 0 then setT L i (addQ (lookT L i) r) else L
def cntT (n : Int) (L : List (Int × Nat)) (i : Int) : Nat := (membersQ (lookT L i) n).length
def enT (n : Int) (L : List (Int × Nat)) (i : Int) : Bool := enoughQ (lookT L i) n
def runT (g : Int → Bool) (a : Int) : Nat → Nat
  | 0 => 0
  | k + 1 => if g (a + 1) = true then runT g (a + 1) k + 1 else 0
def uptoT (n : Int) (L : List (Int × Nat)) (a : Int) : Int := a + (runT (enT n L) a 65 : Nat)
structure OkT (L : List (Int × Nat)) : Prop where
  nod : (L.map Prod.fst).Nodup
  rng : ∀ p ∈ L, 1 ≤ p.1 ∧ p.1 ≤ 1099511627776 ∧ 0 < p.2 ∧ p.2 < 256
  most : L.length ≤ 64
theorem okT_nil : OkT [] := ⟨List.nodup_nil, (fun _ h => by cases h), (Nat.zero_le _)⟩
theorem lookT_mem : ∀ {L : List (Int × Nat)} {k : Int}, lookT L k ≠ 0 → (k, lookT L k) ∈ L
  | [], k, h => absurd rfl h
  | p :: L, k, h => by
    unfold lookT at h ⊢
    split
    · rename_i e
      rw [← e]
      exact List.mem_cons_self
    · rename_i e
      rw [if_neg e] at h
      exact List.mem_cons_of_mem _ (lookT_mem h)
theorem lookT_of_mem : ∀ {L : List (Int × Nat)} {k : Int} {s : Nat}, (L.map Prod.fst).Nodup → (k, s) ∈ L → lookT L k = s
  | [], _, _, _, h => by cases h
  | p :: L, k, s, hn, h => by
    rw [List.map_cons, List.nodup_cons] at hn
    unfold lookT
    rcases List.mem_cons.1 h with e | e
    · rw [← e, if_pos rfl]
    · rw [if_neg (fun e2 => hn.1 (by rw [e2]; exact List.mem_map.2 ⟨_, e, rfl⟩))]
      exact lookT_of_mem hn.2 e
theorem lookT_none : ∀ {L : List (Int × Nat)} {k : Int}, k ∉ L.map Prod.fst → lookT L k = 0
  | [], _, _ => rfl
  | p :: L, k, h => by
    rw [List.map_cons, List.mem_cons, not_or] at h
    unfold lookT
    rw [if_neg (fun e => h.1 e.symm)]
    exact lookT_none h.2
theorem lookT_set : ∀ (L : List (Int × Nat)) (k : Int) (s : Nat) (j : Int), lookT (setT L k s) j = if j = k then s else lookT L j
  | [], k, s, j => by
    unfold setT lookT lookT
    by_cases h : j = k
    · rw [if_pos h, if_pos h.symm]
    · rw [if_neg h, if_neg (fun e => h e.symm)]
  | p :: L, k, s, j => by
    unfold setT
    split
    · rename_i e
      unfold lookT
      by_cases h : j = k
      · rw [if_pos h, if_pos h.symm]
      · rw [if_neg h, if_neg (fun e => h e.symm), if_neg (fun e2 => h (by rw [← e2, e]))]
    · rename_i e
      unfold lookT
      by_cases h : p.1 = j
      · rw [if_pos h, if_pos h, if_neg (fun e2 => e (by rw [h, e2]))]
      · rw [if_neg h, if_neg h]
        exact lookT_set L k s j
theorem keys_set : ∀ (L : List (Int × Nat)) (k : Int) (s : Nat), (setT L k s).map Prod.fst = if k ∈ L.map Prod.fst then L.map Prod.fst else L.map Prod.fst ++ [k]
  | [], k, s => by simp [setT]
  | p :: L, k, s => by
    unfold setT
    by_cases h : p.1 = k
    · rw [if_pos h, List.map_cons, List.map_cons, h, if_pos List.mem_cons_self]
    · rw [if_neg h, List.map_cons, List.map_cons, keys_set L k s]
      by_cases hm : k ∈ L.map Prod.fst
      · rw [if_pos hm, if_pos (List.mem_cons_of_mem _ hm)]
      · rw [if_neg hm, if_neg (fun e => by rcases List.mem_cons.1 e with e | e; · exact h e.symm
                                           · exact hm e), List.cons_append]
theorem mem_set : ∀ {L : List (Int × Nat)} {k : Int} {s : Nat} {p : Int × Nat}, (L.map Prod.fst).Nodup → (p ∈ setT L k s ↔ p = (k, s) ∨ (p ∈ L ∧ p.1 ≠ k))
  | [], k, s, p, _ => by simp [setT]
  | q :: L, k, s, p, hn => by
    rw [List.map_cons, List.nodup_cons] at hn
    unfold setT
    by_cases h : q.1 = k
    · rw [if_pos h, List.mem_cons]
      constructor
      · rintro (e | e)
        · exact .inl e
        · exact .inr ⟨List.mem_cons_of_mem _ e, fun e2 => hn.1 (by rw [h, ← e2]; exact List.mem_map.2 ⟨_, e, rfl⟩)⟩
      · rintro (e | ⟨e, e2⟩)
        · exact .inl e
        · rcases List.mem_cons.1 e with e | e
          · exact absurd (by rw [e]; exact h) e2
          · exact .inr e
    · rw [if_neg h, List.mem_cons, mem_set hn.2, List.mem_cons]
      constructor
      · rintro (e | e | ⟨e, e2⟩)
        · exact .inr ⟨.inl e, by rw [e]; exact h⟩
        · exact .inl e
        · exact .inr ⟨.inr e, e2⟩
      · rintro (e | ⟨e | e, e2⟩)
        · exact .inr (.inl e)
        · exact .inl e
        · exact .inr (.inr ⟨e, e2⟩)
theorem OkT.held {L : List (Int × Nat)} (h : OkT L) {k : Int} : k ∈ L.map Prod.fst ↔ lookT L k ≠ 0 := by
  constructor
  · intro hm
    obtain ⟨⟨a, s⟩, hp, e⟩ := List.mem_map.1 hm
    obtain rfl : a = k := e
    rw [lookT_of_mem h.nod hp]
    have := h.rng _ hp
    dsimp only at this
    omega
  · intro hne
    exact List.mem_map.2 ⟨_, lookT_mem hne, rfl⟩
theorem OkT.look_lt {L : List (Int × Nat)} (h : OkT L) (k : Int) : lookT L k < 256 := by
  by_cases hk : lookT L k = 0
  · omega
  · exact (h.rng _ (lookT_mem hk)).2.2.2
theorem OkT.look_in {L : List (Int × Nat)} (h : OkT L) {k : Int} (hk : lookT L k ≠ 0) : 1 ≤ k ∧ k ≤ 1099511627776 := by
  have := h.rng _ (lookT_mem hk)
  exact ⟨this.1, this.2.1⟩
theorem set_len (L : List (Int × Nat)) (k : Int) (s : Nat) : (setT L k s).length = if k ∈ L.map Prod.fst then L.length else L.length + 1 := by
  have h := congrArg List.length (keys_set L k s)
  rw [List.length_map] at h
  rw [h]
  split
  · rw [List.length_map]
  · simp
theorem OkT.set {L : List (Int × Nat)} (h : OkT L) {k : Int} {s : Nat} (hk : 1 ≤ k ∧ k ≤ 1099511627776) (hs : 0 < s ∧ s < 256) (hr : lookT L k ≠ 0 ∨ L.length < 64) : OkT (setT L k s) := by
  refine ⟨?_, fun p hp => ?_, ?_⟩
  · rw [keys_set]
    split
    · exact h.nod
    · rename_i hm
      rw [List.nodup_append]
      refine ⟨h.nod, by simp, fun a ha b hb e => ?_⟩
      rw [List.mem_singleton] at hb
      exact hm (by rw [← hb, ← e]; exact ha)
  · rcases (mem_set h.nod).1 hp with rfl | ⟨e, _⟩
    · exact ⟨hk.1, hk.2, hs.1, hs.2⟩
    · exact h.rng p e
  · rw [set_len]
    have := h.most
    split
    · exact this
    · rename_i hm
      rcases hr with hr | hr
      · exact absurd (h.held.2 hr) hm
      · omega
theorem addQ_pos {s : Nat} {i : Int} (h : 0 ≤ i ∧ i < 7) : 0 < addQ s i := by
  unfold addQ
  rw [if_pos h]
  have := Nat.right_le_or (n := s) (m := 2 ^ i.toNat)
  have := Nat.two_pow_pos i.toNat
  omega
theorem addQ_low {s : Nat} (hs : s < 256) (i : Int) : addQ s i < 256 := by
  unfold addQ
  split
  · rename_i h
    exact Nat.or_lt_two_pow (n := 8) hs (by have h2 : i.toNat < 8 := by omega
                                            exact Nat.pow_lt_pow_right (by omega) h2)
  · exact hs
theorem OkT.note {L : List (Int × Nat)} (h : OkT L) {n : Int} (hn : n ≤ 7) (i r : Int) : OkT (noteT n L i r) := by
  unfold noteT
  split
  · rename_i he
    unfold errT at he
    split at he
    · rename_i ha
      have ha := of_decide_eq_true ha
      split at he
      · omega
      · rename_i hf
        refine h.set ⟨ha.1, ha.2.1⟩ ⟨addQ_pos ⟨ha.2.2.1, by omega⟩, addQ_low (h.look_lt i) r⟩ ?_
        by_cases hz : lookT L i = 0
        · right
          have : ¬ 64 ≤ L.length := fun e => hf ⟨hz, e⟩
          omega
        · exact .inl hz
    · omega
  · exact h
theorem lookT_drop : ∀ (L : List (Int × Nat)) (i j : Int), lookT (dropT L i) j = if i < j then lookT L j else 0
  | [], i, j => by unfold dropT; simp [lookT]
  | p :: L, i, j => by
    have ih := lookT_drop L i j
    unfold dropT at ih ⊢
    rw [List.filter_cons]
    by_cases h : i < p.1
    · rw [if_pos (decide_eq_true h)]
      unfold lookT
      by_cases e : p.1 = j
      · rw [if_pos e, if_pos e, if_pos (e ▸ h)]
      · rw [if_neg e, if_neg e]
        exact ih
    · rw [if_neg (by simpa using h), ih]
      split
      · rename_i hij
        conv => rhs; unfold lookT
        rw [if_neg (fun e => h (by rw [e]; exact hij))]
      · rfl
theorem OkT.drop {L : List (Int × Nat)} (h : OkT L) (i : Int) : OkT (dropT L i) := by
  refine ⟨?_, fun p hp => h.rng p (List.mem_filter.1 hp).1, Nat.le_trans (List.length_filter_le _ _) h.most⟩
  exact h.nod.sublist (List.Sublist.map _ List.filter_sublist)
/-- No list without repeats is longer than one that holds all of it. -/
theorem nodup_le {α : Type} [DecidableEq α] : ∀ {l m : List α}, l.Nodup → (∀ a ∈ l, a ∈ m) → l.length ≤ m.length
  | [], _, _, _ => Nat.zero_le _
  | a :: l, m, hn, h => by
    rw [List.nodup_cons] at hn
    have ha := h a List.mem_cons_self
    have ih := nodup_le (m := m.erase a) hn.2 fun b hb => (List.mem_erase_of_ne (fun e => hn.1 (by rw [← e]; exact hb))).2 (h b (List.mem_cons_of_mem _ hb))
    rw [List.length_erase_of_mem ha] at ih
    have := List.length_pos_of_mem ha
    rw [List.length_cons]
    omega
theorem runT_mem {g : Int → Bool} : ∀ {k : Nat} {a : Int} {i : Nat}, i < runT g a k → g (a + 1 + i) = true
  | 0, _, _, h => absurd h (Nat.not_lt_zero _)
  | k + 1, a, i, h => by
    rw [runT] at h
    split at h
    · rename_i hg
      cases i with
      | zero => simpa using hg
      | succ i =>
        have := runT_mem (g := g) (k := k) (a := a + 1) (i := i) (by omega)
        rw [show a + 1 + ((i + 1 : Nat) : Int) = a + 1 + 1 + (i : Int) by omega]
        exact this
    · omega
theorem runT_end {g : Int → Bool} : ∀ {k : Nat} {a : Int}, runT g a k < k → g (a + 1 + (runT g a k : Nat)) = false
  | 0, _, h => absurd h (Nat.not_lt_zero _)
  | k + 1, a, h => by
    rw [runT] at h ⊢
    split
    · rename_i hg
      rw [if_pos hg] at h
      have := runT_end (g := g) (k := k) (a := a + 1) (by omega)
      rw [show a + 1 + ((runT g (a + 1) k + 1 : Nat) : Int) = a + 1 + 1 + (runT g (a + 1) k : Nat) by omega]
      exact this
    · rename_i hg
      simpa using hg
theorem runT_le_k {g : Int → Bool} : ∀ {k : Nat} {a : Int}, runT g a k ≤ k
  | 0, _ => Nat.le_refl _
  | k + 1, a => by
    rw [runT]
    split
    · have := runT_le_k (g := g) (k := k) (a := a + 1)
      omega
    · omega
theorem enT_held {n : Int} {L : List (Int × Nat)} {k : Int} (h : enT n L k = true) : lookT L k ≠ 0 := by
  intro e
  unfold enT enoughQ at h
  rw [e] at h
  have h := of_decide_eq_true h
  have : membersQ 0 n = [] := by
    unfold membersQ
    split
    · rfl
    · unfold memQ; simp
  rw [this] at h
  simp at h
  omega
theorem runT_le {n : Int} {L : List (Int × Nat)} (a : Int) (k : Nat) : runT (enT n L) a k ≤ L.length := by
  have h := nodup_le (l := (List.range (runT (enT n L) a k)).map fun i : Nat => a + 1 + (i : Int)) (m := L.map Prod.fst) ?_ ?_
  · simpa using h
  · refine List.Pairwise.map _ (fun i j hij e => hij (by omega)) List.nodup_range
  · intro b hb
    obtain ⟨i, hi, rfl⟩ := List.mem_map.1 hb
    exact List.mem_map.2 ⟨_, lookT_mem (enT_held (runT_mem (List.mem_range.1 hi))), rfl⟩
/-- One step of the way up. -/
theorem runT_step {n : Int} {L : List (Int × Nat)} {a : Int} {j : Nat} (hL : L.length ≤ 64) (h : runT (enT n L) a 65 = j + runT (enT n L) (a + j) (65 - j)) :
    j ≤ 64 ∧ (enT n L (a + j + 1) = true → runT (enT n L) a 65 = (j + 1) + runT (enT n L) (a + (j + 1 : Nat)) (65 - (j + 1))) ∧ (enT n L (a + j + 1) = false → uptoT n L a = a + j) := by
  have h1 := runT_le (n := n) (L := L) a 65
  have hj : j ≤ 64 := by omega
  refine ⟨hj, fun he => ?_, fun he => ?_⟩
  · rw [show 65 - j = (64 - j) + 1 by omega] at h
    have h2 : runT (enT n L) (a + j) (64 - j + 1) = runT (enT n L) (a + j + 1) (64 - j) + 1 := by
      rw [runT, if_pos he]
    have h3 : a + ((j + 1 : Nat) : Int) = a + j + 1 := by omega
    rw [h3, show 65 - (j + 1) = 64 - j by omega]
    omega
  · rw [show 65 - j = (64 - j) + 1 by omega] at h
    have h2 : runT (enT n L) (a + j) (64 - j + 1) = 0 := by
      rw [runT, if_neg (by rw [he]; exact Bool.false_ne_true)]
    unfold uptoT
    omega
end Go.Proofs.Ytmnldkfkcfnkdaa
