/-
  Plain facts on slots, without any program: what a slot is, by its record and its two frames; over which frame the next put goes; puts that end anywhere.
-/
import Derived.Test.YtejejadbemkifaaEBody
namespace Go.Proofs.Ytejejadbemkifaa
set_option maxRecDepth 100000
open Go

/-- A record that was read; a frame that was read. -/
structure Rec where
  st : Nat := 0
  ix : Int := 0
  bx : Int := 0
  yb : Int := 0
  wh : Int := 0
instance : Inhabited Rec := ⟨{}⟩
structure Cop where
  st : Nat := 0
  ix : Int := 0
  bx : Int := 0
  yb : Int := 0
  e : Ent := {}
instance : Inhabited Cop := ⟨{}⟩
def Rec.of (p : Rec) (i : Int) : Prop := p.st = 1 ∧ p.ix = i
def Cop.of (c : Cop) (i : Int) : Prop := c.st = 1 ∧ c.ix = i
/-- Is the second ballot below the first one? -/
def gtL (x y a b : Int) : Prop := a < x ∨ (a = x ∧ b < y)
instance (p : Rec) (i : Int) : Decidable (p.of i) := by unfold Rec.of; exact inferInstance
instance (c : Cop) (i : Int) : Decidable (c.of i) := by unfold Cop.of; exact inferInstance
instance (x y a b : Int) : Decidable (gtL x y a b) := by unfold gtL; exact inferInstance
def beyL (p : Rec) (f0 f1 : Cop) (i : Int) : Prop := (p.st = 1 ∧ i < p.ix) ∨ (f0.st = 1 ∧ i < f0.ix) ∨ (f1.st = 1 ∧ i < f1.ix)
def badL (f0 f1 : Cop) : Prop := f0.st = 2 ∨ f1.st = 2
instance (p : Rec) (f0 f1 : Cop) (i : Int) : Decidable (beyL p f0 f1 i) := by unfold beyL; exact inferInstance
instance (f0 f1 : Cop) : Decidable (badL f0 f1) := by unfold badL; exact inferInstance
def candL (p : Rec) (c : Cop) (i : Int) : Prop := c.of i ∧ ¬ gtL p.bx p.yb c.bx c.yb
instance (p : Rec) (c : Cop) (i : Int) : Decidable (candL p c i) := by unfold candL; exact inferInstance
def pickW (a b h : Prop) [Decidable a] [Decidable b] [Decidable h] : Int := if a ∧ b then (if h then 1 else 0) else if a then 0 else if b then 1 else -1
/-- By which frame a slot is intact; -1: by none. -/
def whereL (p : Rec) (f0 f1 : Cop) (i : Int) : Int :=
  if p.of i then (if p.wh = 1 then pickW (candL p f0 i) (candL p f1 i) (¬ gtL f0.bx f0.yb f1.bx f1.yb) else pickW (candL p f0 i) (candL p f1 i) (gtL f1.bx f1.yb f0.bx f0.yb))
  else if beyL p f0 f1 i ∨ (p.st = 2 ∧ badL f0 f1) then -1
  else pickW (f0.of i) (f1.of i) (gtL f1.bx f1.yb f0.bx f0.yb)
/-- What a slot is: 0 absent, 1 torn, 2 corrupt, 3 intact. -/
def classL (p : Rec) (f0 f1 : Cop) (i : Int) : Nat :=
  if 0 ≤ whereL p f0 f1 i then 3 else if p.of i then 2 else if beyL p f0 f1 i ∨ (p.st = 2 ∧ badL f0 f1) then 2 else if badL f0 f1 then 1 else 0
/-- Over which frame the next put goes. -/
def nextL (p : Rec) (f0 f1 : Cop) (i : Int) : Int :=
  if 0 ≤ whereL p f0 f1 i then 1 - whereL p f0 f1 i else if p.st = 1 ∧ p.wh = 0 then 1 else 0
def cop (f0 f1 : Cop) (k : Int) : Cop := if k = 0 then f0 else f1
/-- The ballot that is told. -/
def repX (p : Rec) (f0 f1 : Cop) (i : Int) : Int := if 0 ≤ whereL p f0 f1 i then (cop f0 f1 (whereL p f0 f1 i)).bx else if p.of i then p.bx else 0
def repY (p : Rec) (f0 f1 : Cop) (i : Int) : Int := if 0 ≤ whereL p f0 f1 i then (cop f0 f1 (whereL p f0 f1 i)).yb else if p.of i then p.yb else 0
def repE (p : Rec) (f0 f1 : Cop) (i : Int) : Ent := if 0 ≤ whereL p f0 f1 i then (cop f0 f1 (whereL p f0 f1 i)).e else {}
theorem pickW_cases {a b h : Prop} [Decidable a] [Decidable b] [Decidable h] : (pickW a b h = -1 ∧ ¬ a ∧ ¬ b) ∨ (pickW a b h = 0 ∧ a ∧ (b → ¬ h)) ∨ (pickW a b h = 1 ∧ b ∧ (a → h)) := by
  unfold pickW
  by_cases ha : a <;> by_cases hb : b <;> by_cases hh : h <;> simp [ha, hb, hh]
theorem whereL_of {p : Rec} {f0 f1 : Cop} {i : Int} : (whereL p f0 f1 i = -1) ∨ (whereL p f0 f1 i = 0 ∧ f0.of i) ∨ (whereL p f0 f1 i = 1 ∧ f1.of i) := by
  unfold whereL
  split
  · split
    · rcases pickW_cases (a := candL p f0 i) (b := candL p f1 i) (h := ¬ gtL f0.bx f0.yb f1.bx f1.yb) with h | h | h
      · exact .inl h.1
      · exact .inr (.inl ⟨h.1, h.2.1.1⟩)
      · exact .inr (.inr ⟨h.1, h.2.1.1⟩)
    · rcases pickW_cases (a := candL p f0 i) (b := candL p f1 i) (h := gtL f1.bx f1.yb f0.bx f0.yb) with h | h | h
      · exact .inl h.1
      · exact .inr (.inl ⟨h.1, h.2.1.1⟩)
      · exact .inr (.inr ⟨h.1, h.2.1.1⟩)
  · split
    · exact .inl rfl
    · rcases pickW_cases (a := f0.of i) (b := f1.of i) (h := gtL f1.bx f1.yb f0.bx f0.yb) with h | h | h
      · exact .inl h.1
      · exact .inr (.inl ⟨h.1, h.2.1⟩)
      · exact .inr (.inr ⟨h.1, h.2.1⟩)
/-- Where the next put goes: never over the frame by which the slot is intact. -/
theorem nextL_two (p : Rec) (f0 f1 : Cop) (i : Int) : (nextL p f0 f1 i = 0 ∨ nextL p f0 f1 i = 1) ∧ (0 ≤ whereL p f0 f1 i → nextL p f0 f1 i ≠ whereL p f0 f1 i) := by
  unfold nextL
  rcases whereL_of (p := p) (f0 := f0) (f1 := f1) (i := i) with h | ⟨h, _⟩ | ⟨h, _⟩ <;> rw [h]
  · rw [if_neg (by omega)]
    split <;> simp
  · simp
  · simp
theorem classL_three {p : Rec} {f0 f1 : Cop} {i : Int} : classL p f0 f1 i = 3 ↔ 0 ≤ whereL p f0 f1 i := by
  unfold classL
  by_cases h : 0 ≤ whereL p f0 f1 i
  · simp [h]
  · simp only [h, if_false]
    constructor
    · intro hh
      split at hh
      · omega
      · split at hh
        · omega
        · split at hh <;> omega
    · intro hh
      cases hh
/-- What holds along puts without damage: a is the greatest round that was acknowledged (0: none), r the greatest that was tried. -/
structure TInv (i r a : Int) (p : Rec) (f0 f1 : Cop) : Prop where
  p1 : p.st ≤ 1
  p2 : p.st = 1 → p.ix ≤ i
  p3 : p.wh = 0 ∨ p.wh = 1
  a1 : f0.st ≤ 2
  a2 : f0.st = 1 → f0.ix ≤ i
  a3 : f0.of i → f0.yb = 1 ∧ 2 ≤ f0.bx ∧ f0.bx ≤ r
  b1 : f1.st ≤ 2
  b2 : f1.st = 1 → f1.ix ≤ i
  b3 : f1.of i → f1.yb = 1 ∧ 2 ≤ f1.bx ∧ f1.bx ≤ r
  q1 : p.of i → p.yb = 1 ∧ 2 ≤ p.bx ∧ p.bx ≤ r ∧ a = p.bx
  q2 : p.of i → (f0.of i ∧ p.bx ≤ f0.bx) ∨ (f1.of i ∧ p.bx ≤ f1.bx)
  q3 : ¬ p.of i → a = 0
theorem TInv.where_ {i r a : Int} {p : Rec} {f0 f1 : Cop} (h : TInv i r a p f0 f1) :
    (whereL p f0 f1 i = -1 ∧ ¬ p.of i ∧ ¬ f0.of i ∧ ¬ f1.of i) ∨
    (whereL p f0 f1 i = 0 ∧ f0.of i ∧ (p.of i → p.bx ≤ f0.bx) ∧ (f1.of i → f1.bx ≤ f0.bx)) ∨
    (whereL p f0 f1 i = 1 ∧ f1.of i ∧ (p.of i → p.bx ≤ f1.bx) ∧ (f0.of i → f0.bx ≤ f1.bx)) := by
  unfold whereL
  by_cases hp : p.of i
  · rw [if_pos hp]
    obtain ⟨y1, y2, y3, y4⟩ := h.q1 hp
    have hq := h.q2 hp
    have c0 : candL p f0 i ↔ f0.of i ∧ p.bx ≤ f0.bx := by
      unfold candL gtL
      constructor
      · rintro ⟨h1, h2⟩; exact ⟨h1, by have := h.a3 h1; omega⟩
      · rintro ⟨h1, h2⟩; exact ⟨h1, by have := h.a3 h1; omega⟩
    have c1 : candL p f1 i ↔ f1.of i ∧ p.bx ≤ f1.bx := by
      unfold candL gtL
      constructor
      · rintro ⟨h1, h2⟩; exact ⟨h1, by have := h.b3 h1; omega⟩
      · rintro ⟨h1, h2⟩; exact ⟨h1, by have := h.b3 h1; omega⟩
    have g1 : f0.of i → f1.of i → (gtL f0.bx f0.yb f1.bx f1.yb ↔ f1.bx < f0.bx) := fun x y => by
      unfold gtL
      have := h.a3 x
      have := h.b3 y
      omega
    have g2 : f0.of i → f1.of i → (gtL f1.bx f1.yb f0.bx f0.yb ↔ f0.bx < f1.bx) := fun x y => by
      unfold gtL
      have := h.a3 x
      have := h.b3 y
      omega
    have two : ∀ hh : Prop, ∀ [Decidable hh], (f0.of i → f1.of i → (hh → f0.bx ≤ f1.bx) ∧ (¬ hh → f1.bx ≤ f0.bx)) →
        (pickW (candL p f0 i) (candL p f1 i) hh = -1 ∧ ¬ p.of i ∧ ¬ f0.of i ∧ ¬ f1.of i) ∨
        (pickW (candL p f0 i) (candL p f1 i) hh = 0 ∧ f0.of i ∧ (p.of i → p.bx ≤ f0.bx) ∧ (f1.of i → f1.bx ≤ f0.bx)) ∨
        (pickW (candL p f0 i) (candL p f1 i) hh = 1 ∧ f1.of i ∧ (p.of i → p.bx ≤ f1.bx) ∧ (f0.of i → f0.bx ≤ f1.bx)) := by
      intro hh _ hc
      rcases pickW_cases (a := candL p f0 i) (b := candL p f1 i) (h := hh) with ⟨e, n0, n1⟩ | ⟨e, n0, n1⟩ | ⟨e, n0, n1⟩
      · rw [c0] at n0
        rw [c1] at n1
        exact absurd hq fun hq => hq.elim n0 n1
      · have m0 := c0.1 n0
        refine .inr (.inl ⟨e, m0.1, fun _ => m0.2, fun hf1 => ?_⟩)
        by_cases hb : candL p f1 i
        · exact (hc m0.1 hf1).2 (n1 hb)
        · rw [c1] at hb
          have : ¬ p.bx ≤ f1.bx := fun hx => hb ⟨hf1, hx⟩
          omega
      · have m1 := c1.1 n0
        refine .inr (.inr ⟨e, m1.1, fun _ => m1.2, fun hf0 => ?_⟩)
        by_cases hb : candL p f0 i
        · exact (hc hf0 m1.1).1 (n1 hb)
        · rw [c0] at hb
          have : ¬ p.bx ≤ f0.bx := fun hx => hb ⟨hf0, hx⟩
          omega
    split
    · exact two _ fun x y => ⟨fun hh => by rw [g1 x y] at hh; omega, fun hh => by rw [g1 x y] at hh; omega⟩
    · exact two _ fun x y => ⟨fun hh => by rw [g2 x y] at hh; omega, fun hh => by rw [g2 x y] at hh; omega⟩
  · rw [if_neg hp, if_neg (by
      intro hh
      unfold beyL at hh
      rcases hh with (⟨h1, h2⟩ | ⟨h1, h2⟩ | ⟨h1, h2⟩) | ⟨h1, _⟩
      · have := h.p2 h1; omega
      · have := h.a2 h1; omega
      · have := h.b2 h1; omega
      · have := h.p1; omega)]
    rcases pickW_cases (a := f0.of i) (b := f1.of i) (h := gtL f1.bx f1.yb f0.bx f0.yb) with ⟨e, n0, n1⟩ | ⟨e, n0, n1⟩ | ⟨e, n0, n1⟩
    · exact .inl ⟨e, hp, n0, n1⟩
    · refine .inr (.inl ⟨e, n0, fun hh => absurd hh hp, fun hf1 => ?_⟩)
      have := n1 hf1
      unfold gtL at this
      have := h.a3 n0
      have := h.b3 hf1
      omega
    · refine .inr (.inr ⟨e, n0, fun hh => absurd hh hp, fun hf0 => ?_⟩)
      have := n1 hf0
      unfold gtL at this
      have := h.a3 hf0
      have := h.b3 n0
      omega
theorem TInv.class_ {i r a : Int} {p : Rec} {f0 f1 : Cop} (h : TInv i r a p f0 f1) : classL p f0 f1 i ≠ 2 := by
  unfold classL
  rcases h.where_ with ⟨e, n, _⟩ | ⟨e, _⟩ | ⟨e, _⟩
  · rw [e, if_neg (by omega), if_neg n, if_neg (by
      intro hh
      unfold beyL at hh
      rcases hh with (⟨h1, h2⟩ | ⟨h1, h2⟩ | ⟨h1, h2⟩) | ⟨h1, _⟩
      · have := h.p2 h1; omega
      · have := h.a2 h1; omega
      · have := h.b2 h1; omega
      · have := h.p1; omega)]
    split <;> simp
  · rw [e]; simp
  · rw [e]; simp
end Go.Proofs.Ytejejadbemkifaa
