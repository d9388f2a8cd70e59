/-
  What it means that a slice of bytes in memory reads as a list of numbers, and how that is carried along; no program.
-/
import Derived.Below
import Derived.Laws.OwnMore
import Derived.Deep.AppendLies
import Derived.Deep.Draws
import Derived.WalkKit
namespace Go.Proofs.Ytmohjofjfekjfaa
set_option maxRecDepth 100000
open Go Go.RowKit

/-- The cells of bytes. -/
def vb (l : List Nat) : List Value := l.map fun (b : Nat) => Value.int .u8 (b : Int)
theorem vb_length (l : List Nat) : (vb l).length = l.length := by simp [vb]
theorem vb_get (l : List Nat) (i : Nat) : (vb l)[i]? = (l[i]?).map fun (b : Nat) => Value.int .u8 (b : Int) := by simp [vb]
theorem vb_append (a b : List Nat) : vb (a ++ b) = vb a ++ vb b := by simp [vb]
theorem vb_one (l : List Nat) : ∀ u ∈ vb l, u.oneCell' = true := by
  intro u hu
  simp only [vb, List.mem_map] at hu
  obtain ⟨b, _, rfl⟩ := hu
  rfl

/-- The bytes l lie at the address A, below block number B. -/
def Rd (w : World) (B : Nat) (A : Option Addr) (l : List Nat) : Prop :=
  (∀ b ∈ l, b < 256) ∧ (0 < l.length → ∃ g o, A = some ⟨g, o, none⟩ ∧ g < B ∧ ∀ j x, l[j]? = some x → w.cell? ⟨g, o + j, none⟩ = some (.int .u8 ((x : Nat) : Int)))

section
variable {w w' : World} {B B' : Nat} {A : Option Addr} {l : List Nat}
theorem Rd.nil_ : Rd w B A [] := ⟨by simp, fun h => absurd h (by simp)⟩
theorem Rd.lt (h : Rd w B A l) : ∀ b ∈ l, b < 256 := h.1
theorem Rd.at_ {k : Nat} (h : Rd w B A l) (hk : k < l.length) : ∃ g o x, A = some ⟨g, o, none⟩ ∧ g < B ∧ l[k]? = some x ∧ x < 256 ∧ w.cell? ⟨g, o + k, none⟩ = some (.int .u8 ((x : Nat) : Int)) := by
  obtain ⟨g, o, e, hg, hc⟩ := h.2 (by omega)
  exact ⟨g, o, l[k], e, hg, List.getElem?_eq_getElem hk, h.1 _ (List.getElem_mem hk), hc k _ (List.getElem?_eq_getElem hk)⟩
theorem Rd.keep (h : Rd w B A l) (hk : ∀ p : Addr, p.block < B → w'.cell? p = w.cell? p) : Rd w' B A l :=
  ⟨h.1, fun hn => by
    obtain ⟨g, o, e, hg, hc⟩ := h.2 hn
    exact ⟨g, o, e, hg, fun j x hx => (hk ⟨g, o + j, none⟩ hg).trans (hc j x hx)⟩⟩
theorem Rd.more (h : Rd w B A l) (hB : B ≤ B') : Rd w B' A l :=
  ⟨h.1, fun hn => by
    obtain ⟨g, o, e, hg, hc⟩ := h.2 hn
    exact ⟨g, o, e, by omega, hc⟩⟩
theorem Rd.below (h : Rd w B A l) (hb : Below B w w') : Rd w' B A l := h.keep fun _ hp => hb.cell hp
theorem Rd.drewN (h : Rd w B A l) (k : Nat) : Rd (w.drewN k) B A l := h.keep fun _ _ => rfl
theorem Rd.drop (h : Rd w B A l) {g o : Nat} (hA : A = some ⟨g, o, none⟩) (k : Nat) : Rd w B (some ⟨g, o + k, none⟩) (l.drop k) := by
  refine ⟨fun b hb => h.1 b (List.mem_of_mem_drop hb), fun hn => ?_⟩
  rw [List.length_drop] at hn
  obtain ⟨g', o', e, hg, hc⟩ := h.2 (by omega)
  rw [hA] at e
  injection e with e
  injection e with e1 e2
  subst e1; subst e2
  refine ⟨g, o + k, rfl, hg, fun j x hx => ?_⟩
  rw [Nat.add_assoc]
  exact hc _ x (by rw [← hx, List.getElem?_drop])
theorem Rd.take (h : Rd w B A l) (k : Nat) : Rd w B A (l.take k) := by
  refine ⟨fun b hb => h.1 b (List.mem_of_mem_take hb), fun hn => ?_⟩
  rw [List.length_take] at hn
  obtain ⟨g, o, e, hg, hc⟩ := h.2 (by omega)
  refine ⟨g, o, e, hg, fun j x hx => hc j x ?_⟩
  rw [List.getElem?_take] at hx
  split at hx
  · exact hx
  · cases hx
theorem Rd.of_own {base t : Nat} {n c : Nat} (h : w.ownsRow base t 1 (.slice A n c) n (vb l)) (hl : ∀ b ∈ l, b < 256) : Rd w w.heap.size A l := by
  refine ⟨hl, fun hn => ?_⟩
  have hlen := h.1
  rw [vb_length] at hlen
  rcases h.2 with ⟨he, h0⟩ | ⟨g, cap, cur, hv, _, hg, _⟩
  · subst h0; omega
  · injection hv with hA _ _
    subst hA
    refine ⟨g, 0, rfl, (Array.getElem?_eq_some_iff.1 hg).1, fun j x hx => ?_⟩
    have hj : j < l.length := (List.getElem?_eq_some_iff.1 hx).1
    rw [Nat.zero_add, h.cellAt j (by omega), vb_get, hx]
    rfl
end

theorem own_form {w : World} {base t n : Nat} {v : Value} {xs : List Value} (h : w.ownsRow base t 1 v n xs) : ∃ A c, v = .slice A n c ∧ n ≤ c ∧ c ≤ 9223372036854775807 := by
  rcases h.2 with ⟨rfl, rfl⟩ | ⟨g, cap, cur, rfl, _, _, h1, h2, _⟩
  · exact ⟨none, 0, rfl, Nat.le_refl _, by omega⟩
  · unfold maxLen at h2
    exact ⟨_, cap, rfl, h1, h2⟩

theorem take_step {l l' : List Nat} {k x : Nat} (h : l.take k = l'.take k) (hx : l[k]? = some x) (hy : l'[k]? = some x) : l.take (k + 1) = l'.take (k + 1) := by
  rw [List.take_add_one, List.take_add_one, h, hx, hy]
theorem ne_of_get {l l' : List Nat} {k x y : Nat} (hx : l[k]? = some x) (hy : l'[k]? = some y) (h : x ≠ y) : decide (l = l') = false := by
  simp only [decide_eq_false_iff_not]
  rintro rfl
  rw [hx] at hy
  injection hy with hy
  exact h hy
theorem drewN_add (w : World) (a b : Nat) : (w.drewN a).drewN b = w.drewN (a + b) := by
  unfold World.drewN
  simp [Nat.add_assoc]
end Go.Proofs.Ytmohjofjfekjfaa
