/-
  What a tally holds behind a list of notes, in plain words: order and repeats change nothing; with more notes there is no less.
-/
import Derived.Test.YtmnldkfkcfnkdaaTlSpec
import Derived.Test.YtmnldkfkcfnkdaaTlTy
namespace Go.Proofs.Ytmnldkfkcfnkdaa
open Go Go.RowKit

def foldT (n : Int) (l : List PairT) : List (Int × Nat) := l.foldl (fun L p => noteT n L p.i p.r) []
def NearT (n : Int) (l : List PairT) : Prop := ∀ p ∈ l, 1 ≤ p.i ∧ p.i ≤ 60 ∧ 0 ≤ p.r ∧ p.r < n
theorem foldT_snoc (n : Int) (l : List PairT) (p : PairT) : foldT n (l ++ [p]) = noteT n (foldT n l) p.i p.r := by
  unfold foldT
  rw [List.foldl_append]
  rfl
theorem foldT_take {n : Int} {l : List PairT} {k : Nat} {p : PairT} (h : l[k]? = some p) : foldT n (l.take (k + 1)) = noteT n (foldT n (l.take k)) p.i p.r := by
  rw [List.take_add_one, h, Option.toList_some, foldT_snoc]
theorem NearT.take {n : Int} {l : List PairT} (h : NearT n l) (k : Nat) : NearT n (l.take k) := fun p hp => h p (List.mem_of_mem_take hp)
theorem NearT.at_ {n : Int} {l : List PairT} (h : NearT n l) {k : Nat} {p : PairT} (hp : l[k]? = some p) : 1 ≤ p.i ∧ p.i ≤ 60 ∧ 0 ≤ p.r ∧ p.r < n := h p (List.mem_of_getElem? hp)
/-- What holds behind near notes. -/
structure InvT (L : List (Int × Nat)) : Prop where
  ok : OkT L
  low : ∀ j, lookT L j ≠ 0 → 1 ≤ j ∧ j ≤ 60
theorem InvT.len {L : List (Int × Nat)} (h : InvT L) : L.length ≤ 60 := by
  have h2 := nodup_le (m := (List.range 60).map fun k : Nat => (k : Int) + 1) h.ok.nod fun a ha => by
    have := h.low a (h.ok.held.1 ha)
    exact List.mem_map.2 ⟨(a - 1).toNat, List.mem_range.2 (by omega), by omega⟩
  simpa using h2
theorem InvT.err {L : List (Int × Nat)} (h : InvT L) {n i r : Int} (hp : 1 ≤ i ∧ i ≤ 60 ∧ 0 ≤ r ∧ r < n) : errT n L i r = 0 := by
  have := h.len
  unfold errT argT
  rw [if_pos (decide_eq_true (by omega)), if_neg (by omega)]
theorem noteT_yes {n i r : Int} {L : List (Int × Nat)} (h : errT n L i r = 0) : noteT n L i r = setT L i (addQ (lookT L i) r) := by
  unfold noteT
  rw [if_pos h]
theorem InvT.note {L : List (Int × Nat)} (h : InvT L) {n i r : Int} (hn : n ≤ 7) (hp : 1 ≤ i ∧ i ≤ 60 ∧ 0 ≤ r ∧ r < n) : InvT (noteT n L i r) := by
  refine ⟨h.ok.note hn i r, fun j hj => ?_⟩
  rw [noteT_yes (h.err hp), lookT_set] at hj
  split at hj
  · omega
  · exact h.low j hj
theorem invT_nil : InvT [] := ⟨okT_nil, fun _ h => absurd rfl h⟩
theorem snoc_ind {α : Type} {P : List α → Prop} (h0 : P []) (h1 : ∀ l a, P l → P (l ++ [a])) (l : List α) : P l := by
  have h : ∀ m : List α, P m.reverse := fun m => by
    induction m with
    | nil => exact h0
    | cons a m ih => rw [List.reverse_cons]; exact h1 _ _ ih
  have := h l.reverse
  rwa [List.reverse_reverse] at this
theorem NearT.inv {n : Int} (hn : n ≤ 7) {l : List PairT} : NearT n l → InvT (foldT n l) := by
  refine snoc_ind (P := fun l => NearT n l → InvT (foldT n l)) (fun _ => invT_nil) (fun l p ih h => ?_) l
  rw [foldT_snoc]
  exact (ih fun q hq => h q (List.mem_append_left _ hq)).note hn (h p (by simp))
/-- A replica is in a slot's set if it was noted there. -/
theorem NearT.bits {n : Int} (hn : n ≤ 7) {l : List PairT} : NearT n l → ∀ (j : Int) (r : Nat), (lookT (foldT n l) j).testBit r = true ↔ ∃ p ∈ l, p.i = j ∧ p.r = (r : Int) := by
  refine snoc_ind (P := fun l => NearT n l → ∀ (j : Int) (r : Nat), (lookT (foldT n l) j).testBit r = true ↔ ∃ p ∈ l, p.i = j ∧ p.r = (r : Int)) (fun _ j r => ?_) (fun l p ih h j r => ?_) l
  · constructor
    · intro e
      rw [show lookT (foldT n []) j = 0 from rfl, Nat.zero_testBit] at e
      cases e
    · rintro ⟨p, hp, _⟩
      cases hp
  · have hl : NearT n l := fun q hq => h q (List.mem_append_left _ hq)
    have hp := h p (by simp)
    have ih := ih hl
    rw [foldT_snoc, noteT_yes ((NearT.inv hn hl).err hp), lookT_set]
    by_cases hj : j = p.i
    · rw [if_pos hj]
      unfold addQ
      rw [if_pos (by omega), Nat.testBit_or, Bool.or_eq_true, ← hj, ih j r, Nat.testBit_two_pow, decide_eq_true_eq]
      constructor
      · rintro (⟨q, hq, e⟩ | e)
        · exact ⟨q, List.mem_append_left _ hq, e⟩
        · exact ⟨p, by simp, hj.symm, by omega⟩
      · rintro ⟨q, hq, e1, e2⟩
        rcases List.mem_append.1 hq with hq | hq
        · exact .inl ⟨q, hq, e1, e2⟩
        · rw [List.mem_singleton] at hq
          subst hq
          right
          omega
    · rw [if_neg hj, ih j r]
      constructor
      · rintro ⟨q, hq, e⟩
        exact ⟨q, List.mem_append_left _ hq, e⟩
      · rintro ⟨q, hq, e1, e2⟩
        rcases List.mem_append.1 hq with hq | hq
        · exact ⟨q, hq, e1, e2⟩
        · rw [List.mem_singleton] at hq
          subst hq
          exact absurd e1.symm hj
/-- The same notes, in whatever order and however often: the same sets. -/
theorem NearT.same {n : Int} (hn : n ≤ 7) {l m : List PairT} (hl : NearT n l) (hm : ∀ p, p ∈ l ↔ p ∈ m) (j : Int) : lookT (foldT n l) j = lookT (foldT n m) j := by
  have hm2 : NearT n m := fun p hp => hl p ((hm p).2 hp)
  refine Nat.eq_of_testBit_eq fun r => ?_
  have h1 := hl.bits hn j r
  have h2 := hm2.bits hn j r
  have h3 : (∃ p ∈ l, p.i = j ∧ p.r = (r : Int)) ↔ ∃ p ∈ m, p.i = j ∧ p.r = (r : Int) := ⟨fun ⟨p, hp, e⟩ => ⟨p, (hm p).1 hp, e⟩, fun ⟨p, hp, e⟩ => ⟨p, (hm p).2 hp, e⟩⟩
  rw [Bool.eq_iff_iff, h1, h2, h3]
theorem memQ_mono {s t n : Nat} (h : ∀ r, s.testBit r = true → t.testBit r = true) : (memQ s n).length ≤ (memQ t n).length := by
  unfold memQ
  rw [← List.countP_eq_length_filter, ← List.countP_eq_length_filter]
  exact List.countP_mono_left fun r _ hr => h r hr
theorem enoughQ_mono {s t : Nat} {n : Int} (h : ∀ r, s.testBit r = true → t.testBit r = true) (he : enoughQ s n = true) : enoughQ t n = true := by
  unfold enoughQ at he ⊢
  have he := of_decide_eq_true he
  refine decide_eq_true ⟨he.1, Nat.le_trans he.2 ?_⟩
  unfold membersQ
  rw [if_neg (by omega), if_neg (by omega)]
  exact memQ_mono h
theorem runT_mono {g g' : Int → Bool} (h : ∀ i, g i = true → g' i = true) : ∀ (k : Nat) (a : Int), runT g a k ≤ runT g' a k
  | 0, _ => Nat.le_refl _
  | k + 1, a => by
    rw [runT, runT]
    by_cases hg : g (a + 1) = true
    · rw [if_pos hg, if_pos (h _ hg)]
      have := runT_mono h k (a + 1)
      omega
    · rw [if_neg hg]
      exact Nat.zero_le _
theorem runT_congr {g g' : Int → Bool} : ∀ (k : Nat) (a : Int), (∀ i, a < i → g i = g' i) → runT g a k = runT g' a k
  | 0, _, _ => rfl
  | k + 1, a, h => by
    rw [runT, runT, h (a + 1) (by omega), runT_congr k (a + 1) fun i hi => h i (by omega)]
/-- With more notes a tally's run is no shorter. -/
theorem NearT.more {n : Int} (hn : n ≤ 7) {l : List PairT} (hl : NearT n l) (k : Nat) (a : Int) : uptoT n (foldT n (l.take k)) a ≤ uptoT n (foldT n l) a := by
  unfold uptoT
  have := runT_mono (g := enT n (foldT n (l.take k))) (g' := enT n (foldT n l)) (fun i hi => by
    refine enoughQ_mono (fun r hr => ?_) hi
    obtain ⟨p, hp, e⟩ := ((hl.take k).bits hn i r).1 hr
    exact (hl.bits hn i r).2 ⟨p, List.mem_of_mem_take hp, e⟩) 65 a
  omega
theorem uptoT_drop (n : Int) (L : List (Int × Nat)) (a : Int) : uptoT n (dropT L a) a = uptoT n L a := by
  unfold uptoT
  rw [runT_congr (g := enT n (dropT L a)) (g' := enT n L) 65 a fun i hi => by unfold enT; rw [lookT_drop, if_pos hi]]
theorem cntT_zero {n : Int} {L : List (Int × Nat)} {i : Int} (h : lookT L i = 0) : cntT n L i = 0 := by
  unfold cntT membersQ
  rw [h]
  split
  · rfl
  · unfold memQ
    simp
/-- Up to where a run goes that begins low. -/
theorem InvT.upto {L : List (Int × Nat)} (h : InvT L) {n a : Int} (ha : 0 ≤ a ∧ a ≤ 70) : a ≤ uptoT n L a ∧ uptoT n L a ≤ 70 ∧ enT n L (uptoT n L a + 1) = false ∧ ∀ i, a < i → i ≤ uptoT n L a → enT n L i = true := by
  have h1 := runT_le (n := n) (L := L) a 65
  have h2 := h.len
  have h3 := runT_end (g := enT n L) (k := 65) (a := a) (by omega)
  have h4 : ∀ i : Int, a < i → i ≤ a + (runT (enT n L) a 65 : Nat) → enT n L i = true := fun i hi hi2 => by
    have := runT_mem (g := enT n L) (k := 65) (a := a) (i := (i - a - 1).toNat) (by omega)
    rwa [show a + 1 + ((i - a - 1).toNat : Int) = i by omega] at this
  unfold uptoT
  refine ⟨by omega, ?_, by rw [show a + (runT (enT n L) a 65 : Nat) + 1 = a + 1 + (runT (enT n L) a 65 : Nat) by omega]; exact h3, h4⟩
  by_cases hr : runT (enT n L) a 65 = 0
  · omega
  · have := h.low _ (enT_held (h4 (a + (runT (enT n L) a 65 : Nat)) (by omega) (by omega)))
    omega
end Go.Proofs.Ytmnldkfkcfnkdaa
