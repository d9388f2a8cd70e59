/-
  Plain facts on disks: what is there when writes have been carried out; what was flushed stays; what a fault leaves alone.
-/
import Derived.Test.YtldgamgdbneneaaDSpec
namespace Go.Proofs.Ytldgamgdbneneaa
set_option maxRecDepth 100000

theorem getD_set {α : Type} {l : List α} {i j : Nat} {x d : α} (hi : i < l.length) : (l.set i x).getD j d = if i = j then x else l.getD j d := by
  rw [List.getD_eq_getElem?_getD, List.getElem?_set]
  by_cases h : i = j
  · subst h
    rw [if_pos rfl, if_pos hi, if_pos rfl]
    rfl
  · rw [if_neg h, if_neg h, List.getD_eq_getElem?_getD]
theorem getD_set_ne {α : Type} {l : List α} {i j : Nat} {x d : α} (h : i ≠ j) : (l.set i x).getD j d = l.getD j d := by
  rw [List.getD_eq_getElem?_getD, List.getElem?_set, if_neg h, List.getD_eq_getElem?_getD]

/-- What a sector holds when writes have been carried out: what the last one of it says, or what it held. -/
theorem lastW_snoc (l : List (Nat × List Nat)) (x : Nat × List Nat) (s : Nat) : lastW (l ++ [x]) s = if x.1 = s then some x.2 else lastW l s := by
  induction l with
  | nil =>
    show (none : Option (List Nat)).or (if x.1 = s then some x.2 else none) = _
    split <;> simp_all [lastW]
  | cons y l ih =>
    show (lastW (l ++ [x]) s).or _ = _
    rw [ih]
    by_cases h : x.1 = s
    · rw [if_pos h, if_pos h]; rfl
    · rw [if_neg h, if_neg h]; rfl
theorem lastW_none {l : List (Nat × List Nat)} {s : Nat} (h : ∀ x ∈ l, x.1 ≠ s) : lastW l s = none := by
  induction l with
  | nil => rfl
  | cons x l ih =>
    show (lastW l s).or (if x.1 = s then some x.2 else none) = none
    rw [ih (fun y hy => h y (by simp [hy])), if_neg (h x (by simp))]
    rfl
theorem lastW_mem {l : List (Nat × List Nat)} {s : Nat} {b : List Nat} (h : lastW l s = some b) : (s, b) ∈ l := by
  induction l with
  | nil => cases h
  | cons x l ih =>
    change (lastW l s).or (if x.1 = s then some x.2 else none) = some b at h
    cases hl : lastW l s with
    | some c =>
      rw [hl] at h
      injection h with h
      subst h
      exact List.mem_cons_of_mem _ (ih hl)
    | none =>
      rw [hl] at h
      change (if x.1 = s then some x.2 else none) = some b at h
      split at h
      · rename_i hx
        injection h with h
        rw [← h, ← hx]
        simp
      · cases h
theorem comes_get (l : List (Nat × List Nat)) : ∀ (m : DM), m.Ok → (∀ x ∈ l, x.1 < m.size) → ∀ s, (m.comes l).rest.getD s [] = (lastW l s).getD (m.rest.getD s []) ∧ (m.comes l).meant.getD s [] = (lastW l s).getD (m.meant.getD s []) ∧ (m.comes l).lost.getD s false = if (lastW l s).isSome then false else m.lost.getD s false := by
  intro m hm hl s
  induction l generalizing m with
  | nil => exact ⟨rfl, rfl, rfl⟩
  | cons x l ih =>
    have hx := hl x (by simp)
    have hlen : x.1 < m.rest.length := hx
    have hlen2 : x.1 < m.meant.length := by rw [hm.meant]; exact hx
    have hlen3 : x.1 < m.lost.length := by rw [hm.lost]; exact hx
    have key : ∀ (m' : DM), m'.meant.length = m'.size → m'.lost.length = m'.size → (∀ y ∈ l, y.1 < m'.size) → (m'.comes l).rest.getD s [] = (lastW l s).getD (m'.rest.getD s []) ∧ (m'.comes l).meant.getD s [] = (lastW l s).getD (m'.meant.getD s []) ∧ (m'.comes l).lost.getD s false = if (lastW l s).isSome then false else m'.lost.getD s false := by
      clear ih hm hlen hlen2 hlen3 hx hl
      induction l with
      | nil => intro m' _ _ _; exact ⟨rfl, rfl, rfl⟩
      | cons y l ih2 =>
        intro m' h1 h2 h3
        have hy := h3 y (by simp)
        obtain ⟨r1, r2, r3⟩ := ih2 (m'.come y) (by simp [DM.come, DM.size]; exact h1) (by simp [DM.come, DM.size]; exact h2) (fun z hz => by rw [DM.come_size]; exact h3 z (by simp [hz]))
        have e : lastW (y :: l) s = (lastW l s).or (if y.1 = s then some y.2 else none) := rfl
        have g1 : (m'.come y).rest.getD s [] = if y.1 = s then y.2 else m'.rest.getD s [] := getD_set hy
        have g2 : (m'.come y).meant.getD s [] = if y.1 = s then y.2 else m'.meant.getD s [] := getD_set (by rw [h1]; exact hy)
        have g3 : (m'.come y).lost.getD s false = if y.1 = s then false else m'.lost.getD s false := getD_set (by rw [h2]; exact hy)
        show ((m'.come y).comes l).rest.getD s [] = _ ∧ ((m'.come y).comes l).meant.getD s [] = _ ∧ ((m'.come y).comes l).lost.getD s false = _
        rw [r1, r2, r3, g1, g2, g3, e]
        cases lastW l s with
        | some b => exact ⟨rfl, rfl, rfl⟩
        | none =>
          by_cases hys : y.1 = s
          · simp [hys]
          · simp [hys]
    obtain ⟨r1, r2, r3⟩ := key (m.come x) (by simp [DM.come, DM.size]; exact hm.meant) (by simp [DM.come, DM.size]; exact hm.lost) (fun z hz => by rw [DM.come_size]; exact hl z (by simp [hz]))
    have g1 : (m.come x).rest.getD s [] = if x.1 = s then x.2 else m.rest.getD s [] := getD_set hlen
    have g2 : (m.come x).meant.getD s [] = if x.1 = s then x.2 else m.meant.getD s [] := getD_set hlen2
    have g3 : (m.come x).lost.getD s false = if x.1 = s then false else m.lost.getD s false := getD_set hlen3
    have e : lastW (x :: l) s = (lastW l s).or (if x.1 = s then some x.2 else none) := rfl
    show ((m.come x).comes l).rest.getD s [] = _ ∧ ((m.come x).comes l).meant.getD s [] = _ ∧ ((m.come x).comes l).lost.getD s false = _
    rw [r1, r2, r3, g1, g2, g3, e]
    cases lastW l s with
    | some b => exact ⟨rfl, rfl, rfl⟩
    | none =>
      by_cases hys : x.1 = s
      · simp [hys]
      · simp [hys]
/-- Of writes in their order one more, and whether it is kept. -/
theorem kept_snoc : ∀ (l : List (Nat × List Nat)) (x : Nat × List Nat) (k : List Bool), kept (l ++ [x]) k = if k[l.length]? = some true then kept l k ++ [x] else kept l k
  | [], x, [] => by simp [kept]
  | [], x, true :: k => by simp [kept]
  | [], x, false :: k => by simp [kept]
  | y :: l, x, [] => by simp [kept]
  | y :: l, x, true :: k => by
    simp only [List.cons_append, kept, List.length_cons, List.getElem?_cons_succ]
    rw [kept_snoc l x k]
    split <;> simp
  | y :: l, x, false :: k => by
    simp only [List.cons_append, kept, List.length_cons, List.getElem?_cons_succ]
    exact kept_snoc l x k
end Go.Proofs.Ytldgamgdbneneaa
