/-
  The contracts of Text, the program's and the document's: a text's length and its bytes, or which error.
-/
import Derived.Test.YtnlappoocffcpaaDoorJoin
import Derived.Laws.IdiomStrings
namespace Go.Proofs.YtnlappoocffcpaaDoor
set_option maxRecDepth 100000
open Go Go.RowKit

/-- A text's bytes as numbers. -/
def bl (s : ByteArray) : List Nat := s.data.toList.map UInt8.toNat
theorem bl_length (s : ByteArray) : (bl s).length = s.size := by
  unfold bl
  rw [List.length_map]
  rfl
theorem bl_lt (s : ByteArray) : ∀ b ∈ bl s, b < 256 := by
  intro b hb
  simp only [bl, List.mem_map] at hb
  obtain ⟨u, _, rfl⟩ := hb
  exact u.toNat_lt

theorem bl_get (s : ByteArray) (j x : Nat) (h : (bl s)[j]? = some x) (cap : Nat) : (bytesRow s cap)[j]? = some (.int .u8 ((x : Nat) : Int)) := by
  unfold bl at h
  rw [List.getElem?_map] at h
  obtain ⟨u, hu, rfl⟩ := Option.map_eq_some_iff.1 h
  have hu' : s.data[j]? = some u := by rw [← Array.getElem?_toList]; exact hu
  have hj : j < s.data.size := (Array.getElem?_eq_some_iff.1 hu').1
  unfold bytesRow
  rw [Array.getElem?_append_left (by rw [Array.size_map]; exact hj), Array.getElem?_map, hu']
  rfl

theorem own_base {w : World} {b b' e : Nat} {v : Value} {n : Nat} {xs : List Value} (h : w.ownsRow b e 1 v n xs) (hb : b' ≤ b) : w.ownsRow b' e 1 v n xs := by
  refine ⟨h.1, ?_⟩
  rcases h.2 with h2 | ⟨g, cap, cur, h2, h3, h4⟩
  · exact .inl h2
  · exact .inr ⟨g, cap, cur, h2, Nat.le_trans hb h3, h4⟩

/-- The world in which Text calls Join. -/
def textW (s : ByteArray) (w : World) (cap : Nat) (fr : Nat × Nat) : World :=
  (((w.alloc (.cells #[.int .u8 (s.size : Int)] 5)).alloc (.cells (bytesRow s cap) 5 fr)).alloc
    (.cells #[.slice (some ⟨w.heap.size, 0, none⟩) 1 1, .slice (some ⟨w.heap.size + 1, 0, none⟩) s.size cap] 22)).drew
def textPs (s : ByteArray) (w : World) (cap : Nat) : List (Value × List Nat) :=
  [(.slice (some ⟨w.heap.size, 0, none⟩) 1 1, [s.size]), (.slice (some ⟨w.heap.size + 1, 0, none⟩) s.size cap, bl s)]
theorem textW_below (s : ByteArray) (w : World) (cap : Nat) (fr : Nat × Nat) : Below w.heap.size w (textW s w cap fr) :=
  ((((Below.refl _ _).alloc (Nat.le_refl _) _).alloc (by simp) _).alloc (by simp; omega) _).drew
theorem textW_size (s : ByteArray) (w : World) (cap : Nat) (fr : Nat × Nat) : (textW s w cap fr).heap.size = w.heap.size + 3 := by
  simp [textW]
theorem text_parts (s : ByteArray) (w : World) (cap : Nat) (fr : Nat × Nat) (hs : s.size ≤ 255) (h1 : s.size ≤ cap) (h2 : cap ≤ maxLen) :
    Parts (textW s w cap fr) (textW s w cap fr).heap.size (some ⟨w.heap.size + 1 + 1, 0, none⟩) 2 (textPs s w cap) := by
  unfold maxLen at h2
  rw [textW_size]
  refine ⟨rfl, fun _ => ⟨_, 0, rfl, by omega, fun j p hp => ?_⟩, fun p hp => ?_⟩
  · match j, hp with
    | 0, hp => simp [textPs] at hp; subst hp; simp [textW, go_sem]
    | 1, hp => simp [textPs] at hp; subst hp; simp [textW, go_sem]
    | j + 2, hp => simp [textPs] at hp
  · simp only [textPs, List.mem_cons, List.not_mem_nil, or_false] at hp
    rcases hp with rfl | rfl
    · refine ⟨_, _, _, rfl, rfl, Nat.le_refl _, by omega, ⟨by intro b hb; simp at hb; omega, fun _ => ⟨_, 0, rfl, by omega, fun j x hx => ?_⟩⟩, fun h => by cases h⟩
      match j, hx with
      | 0, hx => simp at hx; subst hx; simp [textW, go_sem]
      | j + 1, hx => simp at hx
    · refine ⟨_, _, _, rfl, bl_length s, h1, h2, ⟨bl_lt s, fun _ => ⟨_, 0, rfl, by omega, fun j x hx => ?_⟩⟩, fun h => by cases h⟩
      have hb := bl_get s j x hx cap
      have hh : ((w.alloc (.cells #[.int .u8 (s.size : Int)] 5)).alloc (.cells (bytesRow s cap) 5 fr)).heap[w.heap.size + 1]? = some (.cells (bytesRow s cap) 5 fr) := by
        have := heap_alloc_new (w.alloc (.cells #[.int .u8 (s.size : Int)] 5)) (.cells (bytesRow s cap) 5 fr)
        simpa using this
      have hc := cell_of_row _ _ j _ _ _ hh
      rw [hb] at hc
      simp [textW, go_sem, hc]
theorem textPs_cat (s : ByteArray) (w : World) (cap : Nat) : cat (textPs s w cap) = s.size :: bl s := by simp [cat, textPs]

end Go.Proofs.YtnlappoocffcpaaDoor
