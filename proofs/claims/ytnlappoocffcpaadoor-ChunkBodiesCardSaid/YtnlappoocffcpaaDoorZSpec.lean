/-
  Plain facts on chunks, without any program: bytes cut into chunks and put together, heaps of chunks.
-/
import Derived.Test.YtnlappoocffcpaaDoorBytes
namespace Go.Proofs.YtnlappoocffcpaaDoor
set_option maxRecDepth 100000

/-- Can so many bytes be chunk k of so many? -/
def fitsC (k count n : Nat) : Bool := decide (1 ≤ count ∧ count ≤ 8 ∧ k < count ∧ n ≤ 80 ∧ (k + 1 < count → n = 80) ∧ (1 ≤ n ∨ count = 1))
theorem fitsC_iff {k count n : Nat} : fitsC k count n = true ↔ 1 ≤ count ∧ count ≤ 8 ∧ k < count ∧ n ≤ 80 ∧ (k + 1 < count → n = 80) ∧ (1 ≤ n ∨ count = 1) := decide_eq_true_iff
/-- Chunk k of bytes; how many there are. -/
def chunkN (n : Nat) : Nat := if n ≤ 80 then 1 else (n + 79) / 80
def chunkL (b : List Nat) (k : Nat) : List Nat := (b.drop (80 * k)).take 80
def splitL (b : List Nat) : List (List Nat) := (List.range (chunkN b.length)).map (chunkL b)
theorem chunkN_in {n : Nat} (h : n ≤ 640) : 1 ≤ chunkN n ∧ chunkN n ≤ 8 ∧ n ≤ 80 * chunkN n ∧ (2 ≤ chunkN n → 80 * (chunkN n - 1) < n) := by unfold chunkN; split <;> omega
theorem splitL_len (b : List Nat) : (splitL b).length = chunkN b.length := by unfold splitL; simp
theorem splitL_get {b : List Nat} {k : Nat} (h : k < chunkN b.length) : (splitL b)[k]? = some (chunkL b k) := by
  unfold splitL
  rw [List.getElem?_map, List.getElem?_range h]; rfl
theorem chunkL_len (b : List Nat) (k : Nat) : (chunkL b k).length = min 80 (b.length - 80 * k) := by unfold chunkL; rw [List.length_take, List.length_drop]
/-- The first k chunks, one behind the other. -/
theorem chunks_join (b : List Nat) : ∀ k, ((List.range k).map (chunkL b)).flatten = b.take (80 * k)
  | 0 => by simp
  | k + 1 => by
    rw [List.range_succ, List.map_append, List.flatten_append, chunks_join b k]
    simp only [List.map_cons, List.map_nil, List.flatten_cons, List.flatten_nil, List.append_nil]
    unfold chunkL
    rw [show 80 * (k + 1) = 80 * k + 80 from by omega, List.take_add]
theorem split_flat {b : List Nat} (h : b.length ≤ 640) : (splitL b).flatten = b := by
  unfold splitL
  rw [chunks_join, List.take_of_length_le (chunkN_in h).2.2.1]
theorem split_fits {b : List Nat} (h : b.length ≤ 640) {k : Nat} (hk : k < chunkN b.length) : fitsC k (chunkN b.length) (chunkL b k).length = true := by
  rw [fitsC_iff, chunkL_len]
  obtain ⟨a, b', c, d⟩ := chunkN_in h
  refine ⟨a, b', hk, by omega, fun h2 => ?_, ?_⟩
  · have := d (by omega)
    have : 80 * (k + 1) ≤ 80 * (chunkN b.length - 1) := Nat.mul_le_mul_left _ (by omega)
    omega
  · by_cases h1 : chunkN b.length = 1
    · exact .inr h1
    · left
      have := d (by omega)
      have : 80 * k ≤ 80 * (chunkN b.length - 1) := Nat.mul_le_mul_left _ (by omega)
      omega
/-- Are these the chunks of some bytes? -/
def joinB (l : List (List Nat)) : Bool := decide (1 ≤ l.length) && (List.range l.length).all fun k => fitsC k l.length (l.getD k []).length
theorem joinB_iff {l : List (List Nat)} : joinB l = true ↔ 1 ≤ l.length ∧ ∀ k, k < l.length → fitsC k l.length (l.getD k []).length = true := by
  unfold joinB
  rw [Bool.and_eq_true, decide_eq_true_iff, List.all_eq_true]
  constructor
  · rintro ⟨a, b⟩; exact ⟨a, fun k hk => b k (List.mem_range.2 hk)⟩
  · rintro ⟨a, b⟩; exact ⟨a, fun k hk => b k (List.mem_range.1 hk)⟩
/-- Some lists of 80 each, one behind the other. -/
theorem flat_full : ∀ (l : List (List Nat)) (k : Nat), k ≤ l.length → (∀ j, j < k → (l.getD j []).length = 80) → (l.take k).flatten.length = 80 * k
  | _, 0, _, _ => by simp
  | [], k + 1, h, _ => by simp at h
  | x :: l, k + 1, h, hf => by
    have h0 := hf 0 (by omega)
    simp only [List.getD_cons_zero] at h0
    have ih := flat_full l k (by simpa using h) fun j hj => by
      have := hf (j + 1) (by omega)
      simpa using this
    rw [List.take_succ_cons, List.flatten_cons, List.length_append, h0, ih]
    omega
theorem flat_at (l : List (List Nat)) {k : Nat} (hk : k < l.length) (hf : ∀ j, j < k → (l.getD j []).length = 80) : l.flatten.drop (80 * k) = l.getD k [] ++ (l.drop (k + 1)).flatten := by
  have h1 := flat_full l k (by omega) hf
  have h2 : l = l.take k ++ (l.getD k [] :: l.drop (k + 1)) := by
    rw [List.getD_eq_getElem?_getD, List.getElem?_eq_getElem hk, Option.getD_some, List.getElem_cons_drop, List.take_append_drop]
  conv => lhs; rw [h2]
  rw [List.flatten_append, List.drop_append_of_le_length (by omega), List.drop_of_length_le (by omega), List.nil_append, List.flatten_cons]
theorem join_len {l : List (List Nat)} (h : joinB l = true) : l.length ≤ 8 ∧ chunkN l.flatten.length = l.length ∧ l.flatten.length ≤ 640 := by
  obtain ⟨h1, hf⟩ := joinB_iff.1 h
  have hlast := fitsC_iff.1 (hf (l.length - 1) (by omega))
  have hfull : ∀ j, j < l.length - 1 → (l.getD j []).length = 80 := fun j hj => (fitsC_iff.1 (hf j (by omega))).2.2.2.2.1 (by omega)
  have hn := flat_at l (k := l.length - 1) (by omega) hfull
  rw [List.drop_of_length_le (show l.length ≤ l.length - 1 + 1 by omega)] at hn
  have hl := congrArg List.length hn
  rw [List.length_drop, List.length_append, List.flatten_nil, List.length_nil] at hl
  have h8 := hlast.2.1
  have hge : 80 * (l.length - 1) ≤ l.flatten.length := by
    have := flat_full l (l.length - 1) (by omega) hfull
    have h3 : (l.take (l.length - 1)).flatten.length ≤ l.flatten.length := by
      conv => rhs; rw [← List.take_append_drop (l.length - 1) l]
      rw [List.flatten_append, List.length_append]
      omega
    omega
  refine ⟨h8, ?_, by omega⟩
  unfold chunkN
  have := hlast.2.2.2.1
  rcases hlast.2.2.2.2.2 with hp | hp
  · split <;> omega
  · rw [if_pos (by omega), hp]
theorem join_split {l : List (List Nat)} (h : joinB l = true) : splitL l.flatten = l := by
  obtain ⟨h1, hf⟩ := joinB_iff.1 h
  obtain ⟨h8, hc, hl⟩ := join_len h
  apply List.ext_getElem?
  intro k
  by_cases hk : k < l.length
  · rw [splitL_get (by omega), List.getElem?_eq_getElem hk]
    have hfk := fitsC_iff.1 (hf k hk)
    have hat := flat_at l hk fun j hj => (fitsC_iff.1 (hf j (by omega))).2.2.2.2.1 (by omega)
    unfold chunkL
    rw [hat]
    have hg : l.getD k [] = l[k] := by rw [List.getD_eq_getElem?_getD, List.getElem?_eq_getElem hk, Option.getD_some]
    rw [hg] at hfk hat ⊢
    by_cases h80 : l[k].length = 80
    · rw [← h80, List.take_append_of_le_length (Nat.le_refl _), List.take_length]
    · have hlast : k + 1 = l.length := by
        by_cases hh : k + 1 < l.length
        · exact absurd (hfk.2.2.2.2.1 hh) h80
        · omega
      rw [List.drop_of_length_le (by omega), List.flatten_nil, List.append_nil, List.take_of_length_le hfk.2.2.2.1]
  · rw [List.getElem?_eq_none (by rw [splitL_len, hc]; omega), List.getElem?_eq_none (by omega)]
theorem split_joinB {b : List Nat} (h : b.length ≤ 640) : joinB (splitL b) = true := by
  rw [joinB_iff, splitL_len]
  refine ⟨(chunkN_in h).1, fun k hk => ?_⟩
  rw [List.getD_eq_getElem?_getD, splitL_get hk, Option.getD_some]
  exact split_fits h hk

/-! ### Heaps -/
/-- What a heap holds, by chunk. -/
def HeapM := List (Option (List Nat))
def missL (m : List (Option (List Nat))) : List Nat := (List.range m.length).filter fun k => (m.getD k none).isNone
def wholeL (m : List (Option (List Nat))) : List Nat := (m.map fun o => o.getD []).flatten
theorem missL_nil {m : List (Option (List Nat))} : missL m = [] ↔ ∀ k, k < m.length → (m.getD k none).isSome = true := by
  unfold missL
  rw [List.filter_eq_nil_iff]
  constructor
  · intro h k hk
    have := h k (List.mem_range.2 hk)
    cases hm : m.getD k none with
    | none => rw [hm] at this; simp at this
    | some x => rfl
  · intro h k hk
    have := h k (List.mem_range.1 hk)
    cases hm : m.getD k none with
    | none => rw [hm] at this; cases this
    | some x => simp
end Go.Proofs.YtnlappoocffcpaaDoor
