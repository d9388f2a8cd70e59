/-
  Plain facts on slots, without any program: what a slot is, by its record and its two frames; over which frame the next put goes; puts that end anywhere.
  The contracts of slot's small functions: other, isFrame, isFor, isBad, isNone; cmp's Compare and Or; compare.
  Plain facts on entries: what the functions answer, told in one form; entries that are altered.
  Plain facts: a reader that goes on behind what is too short, and what it has read then. No program.
  The contracts of entry's small functions: isWithin, mayBallot, limits, texts and its methods.
  The contract of entry's MayOp.
  Entries and operations compared with what is blank; the contract of entry's May.
  The contracts of Text and Join, in the words 'By' (a slice that reads as bytes) and 'Ext' (nothing that was there is written).
  The contracts of entry's put, putOperation, Bytes and Print.
  The contract of the statements' own first look at the chapter's examples: it answers true and writes nothing that was there.
  The contracts of entry's reader: pass, number, kind, text.
-/
import Derived.Test.YtmacebglfniegaaGreatDoorQ01
import Derived.Test.YtmacebglfniegaaGreatDoorQ07
import Derived.Test.YtmacebglfniegaaGreatDoorQ08
import Derived.Deep.RegionHeld3
import Derived.LoopN
import Derived.Laws.EntriesVeiled
namespace Go.Proofs.YtmacebglfniegaaGreatDoor
set_option maxRecDepth 100000
open Go

/-- A record that was read; a frame that was read. -/
structure Rec where
  st : Nat := 0
  ix : Int := 0
  bx : Int := 0
  yb : Int := 0
  wh : Int := 0
instance : Inhabited Rec := ⟨{}⟩
structure CopL where
  st : Nat := 0
  ix : Int := 0
  bx : Int := 0
  yb : Int := 0
  e : Ent := {}
instance : Inhabited CopL := ⟨{}⟩
def Rec.of (p : Rec) (i : Int) : Prop := p.st = 1 ∧ p.ix = i
def CopL.of (c : CopL) (i : Int) : Prop := c.st = 1 ∧ c.ix = i
/-- Is the second ballot below the first one? -/
def gtL (x y a b : Int) : Prop := a < x ∨ (a = x ∧ b < y)
instance (p : Rec) (i : Int) : Decidable (p.of i) := by unfold Rec.of; exact inferInstance
instance (c : CopL) (i : Int) : Decidable (c.of i) := by unfold CopL.of; exact inferInstance
instance (x y a b : Int) : Decidable (gtL x y a b) := by unfold gtL; exact inferInstance
def beyL (p : Rec) (f0 f1 : CopL) (i : Int) : Prop := (p.st = 1 ∧ i < p.ix) ∨ (f0.st = 1 ∧ i < f0.ix) ∨ (f1.st = 1 ∧ i < f1.ix)
def badL (f0 f1 : CopL) : Prop := f0.st = 2 ∨ f1.st = 2
instance (p : Rec) (f0 f1 : CopL) (i : Int) : Decidable (beyL p f0 f1 i) := by unfold beyL; exact inferInstance
instance (f0 f1 : CopL) : Decidable (badL f0 f1) := by unfold badL; exact inferInstance
def candL (p : Rec) (c : CopL) (i : Int) : Prop := c.of i ∧ ¬ gtL p.bx p.yb c.bx c.yb
instance (p : Rec) (c : CopL) (i : Int) : Decidable (candL p c i) := by unfold candL; exact inferInstance
def pickW (a b h : Prop) [Decidable a] [Decidable b] [Decidable h] : Int := if a ∧ b then (if h then 1 else 0) else if a then 0 else if b then 1 else -1
/-- By which frame a slot is intact; -1: by none. -/
def whereL (p : Rec) (f0 f1 : CopL) (i : Int) : Int :=
  if p.of i then (if p.wh = 1 then pickW (candL p f0 i) (candL p f1 i) (¬ gtL f0.bx f0.yb f1.bx f1.yb) else pickW (candL p f0 i) (candL p f1 i) (gtL f1.bx f1.yb f0.bx f0.yb))
  else if beyL p f0 f1 i ∨ (p.st = 2 ∧ badL f0 f1) then -1
  else pickW (f0.of i) (f1.of i) (gtL f1.bx f1.yb f0.bx f0.yb)
/-- What a slot is: 0 absent, 1 torn, 2 corrupt, 3 intact. -/
def classL (p : Rec) (f0 f1 : CopL) (i : Int) : Nat :=
  if 0 ≤ whereL p f0 f1 i then 3 else if p.of i then 2 else if beyL p f0 f1 i ∨ (p.st = 2 ∧ badL f0 f1) then 2 else if badL f0 f1 then 1 else 0
/-- Over which frame the next put goes. -/
def nextL (p : Rec) (f0 f1 : CopL) (i : Int) : Int :=
  if 0 ≤ whereL p f0 f1 i then 1 - whereL p f0 f1 i else if p.st = 1 ∧ p.wh = 0 then 1 else 0
def cop (f0 f1 : CopL) (k : Int) : CopL := if k = 0 then f0 else f1
/-- The ballot that is told. -/
def repX (p : Rec) (f0 f1 : CopL) (i : Int) : Int := if 0 ≤ whereL p f0 f1 i then (cop f0 f1 (whereL p f0 f1 i)).bx else if p.of i then p.bx else 0
def repY (p : Rec) (f0 f1 : CopL) (i : Int) : Int := if 0 ≤ whereL p f0 f1 i then (cop f0 f1 (whereL p f0 f1 i)).yb else if p.of i then p.yb else 0
def repE (p : Rec) (f0 f1 : CopL) (i : Int) : Ent := if 0 ≤ whereL p f0 f1 i then (cop f0 f1 (whereL p f0 f1 i)).e else {}
theorem pickW_cases {a b h : Prop} [Decidable a] [Decidable b] [Decidable h] : (pickW a b h = -1 ∧ ¬ a ∧ ¬ b) ∨ (pickW a b h = 0 ∧ a ∧ (b → ¬ h)) ∨ (pickW a b h = 1 ∧ b ∧ (a → h)) := by
  unfold pickW
  by_cases ha : a <;> by_cases hb : b <;> by_cases hh : h <;> simp [ha, hb, hh]
theorem whereL_of {p : Rec} {f0 f1 : CopL} {i : Int} : (whereL p f0 f1 i = -1) ∨ (whereL p f0 f1 i = 0 ∧ f0.of i) ∨ (whereL p f0 f1 i = 1 ∧ f1.of i) := by
  unfold whereL
  split
  · split
    · rcases pickW_cases (a := candL p f0 i) (b := candL p f1 i) (h := ¬ gtL f0.bx f0.yb f1.bx f1.yb) with h | h | h
      · exact .inl h.1
      · exact .inr (.inl ⟨h.1, h.2.1.1⟩)
      · exact .inr (.inr ⟨h.1, h.2.1.1⟩)
    · rcases pickW_cases (a := candL p f0 i) (b := candL p f1 i) (h := gtL f1.bx f1.yb f0.bx f0.yb) with h | h | h
      · exact .inl h.1
      · exact .inr (.inl ⟨h.1, h.2.1.1⟩)
      · exact .inr (.inr ⟨h.1, h.2.1.1⟩)
  · split
    · exact .inl rfl
    · rcases pickW_cases (a := f0.of i) (b := f1.of i) (h := gtL f1.bx f1.yb f0.bx f0.yb) with h | h | h
      · exact .inl h.1
      · exact .inr (.inl ⟨h.1, h.2.1⟩)
      · exact .inr (.inr ⟨h.1, h.2.1⟩)
/-- Where the next put goes: never over the frame by which the slot is intact. -/
theorem nextL_two (p : Rec) (f0 f1 : CopL) (i : Int) : (nextL p f0 f1 i = 0 ∨ nextL p f0 f1 i = 1) ∧ (0 ≤ whereL p f0 f1 i → nextL p f0 f1 i ≠ whereL p f0 f1 i) := by
  unfold nextL
  rcases whereL_of (p := p) (f0 := f0) (f1 := f1) (i := i) with h | ⟨h, _⟩ | ⟨h, _⟩ <;> rw [h]
  · rw [if_neg (by omega)]
    split <;> simp
  · simp
  · simp
theorem classL_three {p : Rec} {f0 f1 : CopL} {i : Int} : classL p f0 f1 i = 3 ↔ 0 ≤ whereL p f0 f1 i := by
  unfold classL
  by_cases h : 0 ≤ whereL p f0 f1 i
  · simp [h]
  · simp only [h, if_false]
    constructor
    · intro hh
      split at hh
      · omega
      · split at hh
        · omega
        · split at hh <;> omega
    · intro hh
      cases hh
/-- What holds along puts without damage: a is the greatest round that was acknowledged (0: none), r the greatest that was tried. -/
structure TInv (i r a : Int) (p : Rec) (f0 f1 : CopL) : Prop where
  p1 : p.st ≤ 1
  p2 : p.st = 1 → p.ix ≤ i
  p3 : p.wh = 0 ∨ p.wh = 1
  a1 : f0.st ≤ 2
  a2 : f0.st = 1 → f0.ix ≤ i
  a3 : f0.of i → f0.yb = 1 ∧ 2 ≤ f0.bx ∧ f0.bx ≤ r
  b1 : f1.st ≤ 2
  b2 : f1.st = 1 → f1.ix ≤ i
  b3 : f1.of i → f1.yb = 1 ∧ 2 ≤ f1.bx ∧ f1.bx ≤ r
  q1 : p.of i → p.yb = 1 ∧ 2 ≤ p.bx ∧ p.bx ≤ r ∧ a = p.bx
  q2 : p.of i → (f0.of i ∧ p.bx ≤ f0.bx) ∨ (f1.of i ∧ p.bx ≤ f1.bx)
  q3 : ¬ p.of i → a = 0
theorem TInv.where_ {i r a : Int} {p : Rec} {f0 f1 : CopL} (h : TInv i r a p f0 f1) :
    (whereL p f0 f1 i = -1 ∧ ¬ p.of i ∧ ¬ f0.of i ∧ ¬ f1.of i) ∨
    (whereL p f0 f1 i = 0 ∧ f0.of i ∧ (p.of i → p.bx ≤ f0.bx) ∧ (f1.of i → f1.bx ≤ f0.bx)) ∨
    (whereL p f0 f1 i = 1 ∧ f1.of i ∧ (p.of i → p.bx ≤ f1.bx) ∧ (f0.of i → f0.bx ≤ f1.bx)) := by
  unfold whereL
  by_cases hp : p.of i
  · rw [if_pos hp]
    obtain ⟨y1, y2, y3, y4⟩ := h.q1 hp
    have hq := h.q2 hp
    have c0 : candL p f0 i ↔ f0.of i ∧ p.bx ≤ f0.bx := by
      unfold candL gtL
      constructor
      · rintro ⟨h1, h2⟩; exact ⟨h1, by have := h.a3 h1; omega⟩
      · rintro ⟨h1, h2⟩; exact ⟨h1, by have := h.a3 h1; omega⟩
    have c1 : candL p f1 i ↔ f1.of i ∧ p.bx ≤ f1.bx := by
      unfold candL gtL
      constructor
      · rintro ⟨h1, h2⟩; exact ⟨h1, by have := h.b3 h1; omega⟩
      · rintro ⟨h1, h2⟩; exact ⟨h1, by have := h.b3 h1; omega⟩
    have g1 : f0.of i → f1.of i → (gtL f0.bx f0.yb f1.bx f1.yb ↔ f1.bx < f0.bx) := fun x y => by
      unfold gtL
      have := h.a3 x
      have := h.b3 y
      omega
    have g2 : f0.of i → f1.of i → (gtL f1.bx f1.yb f0.bx f0.yb ↔ f0.bx < f1.bx) := fun x y => by
      unfold gtL
      have := h.a3 x
      have := h.b3 y
      omega
    have two : ∀ hh : Prop, ∀ [Decidable hh], (f0.of i → f1.of i → (hh → f0.bx ≤ f1.bx) ∧ (¬ hh → f1.bx ≤ f0.bx)) →
        (pickW (candL p f0 i) (candL p f1 i) hh = -1 ∧ ¬ p.of i ∧ ¬ f0.of i ∧ ¬ f1.of i) ∨
        (pickW (candL p f0 i) (candL p f1 i) hh = 0 ∧ f0.of i ∧ (p.of i → p.bx ≤ f0.bx) ∧ (f1.of i → f1.bx ≤ f0.bx)) ∨
        (pickW (candL p f0 i) (candL p f1 i) hh = 1 ∧ f1.of i ∧ (p.of i → p.bx ≤ f1.bx) ∧ (f0.of i → f0.bx ≤ f1.bx)) := by
      intro hh _ hc
      rcases pickW_cases (a := candL p f0 i) (b := candL p f1 i) (h := hh) with ⟨e, n0, n1⟩ | ⟨e, n0, n1⟩ | ⟨e, n0, n1⟩
      · rw [c0] at n0
        rw [c1] at n1
        exact absurd hq fun hq => hq.elim n0 n1
      · have m0 := c0.1 n0
        refine .inr (.inl ⟨e, m0.1, fun _ => m0.2, fun hf1 => ?_⟩)
        by_cases hb : candL p f1 i
        · exact (hc m0.1 hf1).2 (n1 hb)
        · rw [c1] at hb
          have : ¬ p.bx ≤ f1.bx := fun hx => hb ⟨hf1, hx⟩
          omega
      · have m1 := c1.1 n0
        refine .inr (.inr ⟨e, m1.1, fun _ => m1.2, fun hf0 => ?_⟩)
        by_cases hb : candL p f0 i
        · exact (hc hf0 m1.1).1 (n1 hb)
        · rw [c0] at hb
          have : ¬ p.bx ≤ f0.bx := fun hx => hb ⟨hf0, hx⟩
          omega
    split
    · exact two _ fun x y => ⟨fun hh => by rw [g1 x y] at hh; omega, fun hh => by rw [g1 x y] at hh; omega⟩
    · exact two _ fun x y => ⟨fun hh => by rw [g2 x y] at hh; omega, fun hh => by rw [g2 x y] at hh; omega⟩
  · rw [if_neg hp, if_neg (by
      intro hh
      unfold beyL at hh
      rcases hh with (⟨h1, h2⟩ | ⟨h1, h2⟩ | ⟨h1, h2⟩) | ⟨h1, _⟩
      · have := h.p2 h1; omega
      · have := h.a2 h1; omega
      · have := h.b2 h1; omega
      · have := h.p1; omega)]
    rcases pickW_cases (a := f0.of i) (b := f1.of i) (h := gtL f1.bx f1.yb f0.bx f0.yb) with ⟨e, n0, n1⟩ | ⟨e, n0, n1⟩ | ⟨e, n0, n1⟩
    · exact .inl ⟨e, hp, n0, n1⟩
    · refine .inr (.inl ⟨e, n0, fun hh => absurd hh hp, fun hf1 => ?_⟩)
      have := n1 hf1
      unfold gtL at this
      have := h.a3 n0
      have := h.b3 hf1
      omega
    · refine .inr (.inr ⟨e, n0, fun hh => absurd hh hp, fun hf0 => ?_⟩)
      have := n1 hf0
      unfold gtL at this
      have := h.a3 hf0
      have := h.b3 n0
      omega
end Go.Proofs.YtmacebglfniegaaGreatDoor

namespace Go.Proofs.YtmacebglfniegaaGreatDoor
set_option maxRecDepth 100000
open Go Go.RowKit

/-- The first of two numbers that is not 0. -/
def orI (a b : Int) : Int := if a = 0 then b else a
end Go.Proofs.YtmacebglfniegaaGreatDoor

namespace Go.Proofs.YtmacebglfniegaaGreatDoor
set_option maxRecDepth 100000
open Go

/-- An entry's bytes, or none, and which error. -/
def eL (e : Ent) : List Nat := if enOk e = true then enL e else []
def eR (e : Ent) : Int := if enOk e = true then 0 else 2
theorem eL_yes {e : Ent} (h : enOk e = true) : eL e = enL e := if_pos h
theorem eR_yes {e : Ent} (h : enOk e = true) : eR e = 0 := if_pos h
theorem eL_no {e : Ent} (h : enOk e = false) : eL e = [] := by unfold eL; rw [h]; rfl
theorem eR_no {e : Ent} (h : enOk e = false) : eR e = 2 := by unfold eR; rw [h]; rfl
/-- A body's bytes, or none, and which error. -/
def pL (x y : Int) (e : Ent) : List Nat := if balE x y = true ∧ enOk e = true then bodyL x y e else []
def pR (x y : Int) (e : Ent) : Int := if balE x y = true ∧ enOk e = true then 0 else 2
theorem pL_yes {x y : Int} {e : Ent} (hb : balE x y = true) (h : enOk e = true) : pL x y e = bodyL x y e := if_pos ⟨hb, h⟩
theorem pR_yes {x y : Int} {e : Ent} (hb : balE x y = true) (h : enOk e = true) : pR x y e = 0 := if_pos ⟨hb, h⟩
theorem pL_nob {x y : Int} {e : Ent} (hb : balE x y = false) : pL x y e = [] := by unfold pL; rw [hb, if_neg (by simp)]
theorem pR_nob {x y : Int} {e : Ent} (hb : balE x y = false) : pR x y e = 2 := by unfold pR; rw [hb, if_neg (by simp)]
theorem pL_no {x y : Int} {e : Ent} (h : enOk e = false) : pL x y e = [] := by unfold pL; rw [h, if_neg (by simp)]
theorem pR_no {x y : Int} {e : Ent} (h : enOk e = false) : pR x y e = 2 := by unfold pR; rw [h, if_neg (by simp)]
/-- An entry that is altered so may not be. -/
theorem bad_of {e : Ent} (h : ¬ ((e.k = 1 ∧ e.cl = 0 ∧ e.sq = 0 ∧ e.ok = 0 ∧ e.key.size = 0 ∧ e.old.size = 0 ∧ e.val.size = 0) ∨ (e.k = 2 ∧ 0 ≤ e.cl ∧ e.cl ≤ 3 ∧ 1 ≤ e.sq ∧ e.sq ≤ 1099511627776 ∧ (1 ≤ e.key.size ∧ e.key.size ≤ 8 ∧ e.old.size ≤ 16 ∧ e.val.size ≤ 16 ∧ (((e.ok = 1 ∨ e.ok = 3) ∧ e.old.size = 0 ∧ e.val.size = 0) ∨ (e.ok = 2 ∧ e.old.size = 0) ∨ e.ok = 4)) ∧ e.ok ≠ 1))) : enOk e = false := by
  rw [Bool.eq_false_iff]
  intro hk
  have := enOk_iff.1 hk
  rw [opOk_iff] at this
  exact h this
theorem good_of {e : Ent} (h : enOk e = true) : ((e.k = 1 ∧ e.cl = 0 ∧ e.sq = 0 ∧ e.ok = 0 ∧ e.key.size = 0 ∧ e.old.size = 0 ∧ e.val.size = 0) ∨ (e.k = 2 ∧ 0 ≤ e.cl ∧ e.cl ≤ 3 ∧ 1 ≤ e.sq ∧ e.sq ≤ 1099511627776 ∧ (1 ≤ e.key.size ∧ e.key.size ≤ 8 ∧ e.old.size ≤ 16 ∧ e.val.size ≤ 16 ∧ (((e.ok = 1 ∨ e.ok = 3) ∧ e.old.size = 0 ∧ e.val.size = 0) ∨ (e.ok = 2 ∧ e.old.size = 0) ∨ e.ok = 4)) ∧ e.ok ≠ 1)) := by
  have := enOk_iff.1 h
  rw [opOk_iff] at this
  exact this
end Go.Proofs.YtmacebglfniegaaGreatDoor

namespace Go.Proofs.YtmacebglfniegaaGreatDoor
set_option maxRecDepth 100000
open Go

end Go.Proofs.YtmacebglfniegaaGreatDoor

namespace Go.Proofs.YtmacebglfniegaaGreatDoor
set_option maxRecDepth 100000
open Go Go.RowKit

theorem withinE_any (a n b : Int) (w : World) :
    Calls Tryz.prog 139 #[.int .i64 a, .int .i64 n, .int .i64 b] w fun e w' => e = .returned (.bool (decide (a ≤ n) && decide (n ≤ b))) ∧ w' = w := by
  cases h1 : decide (a ≤ n) <;> cases h2 : decide (n ≤ b)
  all_goals
    go_enter Tryz.func139, Tryz.ntmps139
    go_wp2_with fail
    go_ret
    exact ⟨rfl, rfl⟩
/-- The most that a kind's texts may have. -/
def limK (k : Nat) : Int := if 1 ≤ k ∧ k ≤ 4 then 8 else 0
def limO (k : Nat) : Int := if k = 4 then 16 else 0
def limV (k : Nat) : Int := if k = 4 ∨ k = 2 then 16 else 0
set_option maxHeartbeats 600000 in
theorem limits_any (k : Nat) (w : World) :
    Calls Tryz.prog 202 #[.int .u8 (k : Int)] w fun e w' => e = .returned (.agg #[.int .i64 (limK k), .int .i64 (limO k), .int .i64 (limV k)]) ∧ Ext w w' := by
  by_cases h4 : k = 4
  · subst h4
    try clear h4
    try clear h2
    try clear h1
    go_enter Tryz.func202, Tryz.ntmps202
    go_wp2_with fail
    refine bodyPost_ret (v := .agg #[.int .i64 8, .int .i64 16, .int .i64 16]) ?_ rfl ⟨rfl, (Ext.refl w).alloc _⟩
    simp [results, Tryz.results202, go_sem]
  by_cases h2 : k = 2
  · subst h2
    try clear h4
    try clear h2
    try clear h1
    go_enter Tryz.func202, Tryz.ntmps202
    go_wp2_with fail
    refine bodyPost_ret (v := .agg #[.int .i64 8, .int .i64 0, .int .i64 16]) ?_ rfl ⟨rfl, (Ext.refl w).alloc _⟩
    simp [results, Tryz.results202, go_sem]
  by_cases h1 : k = 1
  · subst h1
    try clear h4
    try clear h2
    try clear h1
    go_enter Tryz.func202, Tryz.ntmps202
    go_wp2_with fail
    refine bodyPost_ret (v := .agg #[.int .i64 8, .int .i64 0, .int .i64 0]) ?_ rfl ⟨rfl, (Ext.refl w).alloc _⟩
    simp [results, Tryz.results202, go_sem]
  by_cases h3 : k = 3
  · subst h3
    try clear h4
    try clear h2
    try clear h1
    go_enter Tryz.func202, Tryz.ntmps202
    go_wp2_with fail
    refine bodyPost_ret (v := .agg #[.int .i64 8, .int .i64 0, .int .i64 0]) ?_ rfl ⟨rfl, (Ext.refl w).alloc _⟩
    simp [results, Tryz.results202, go_sem]
  · have e1 : limK k = 0 := if_neg (by omega)
    have e2 : limO k = 0 := if_neg (by omega)
    have e3 : limV k = 0 := if_neg (by omega)
    rw [e1, e2, e3]
    have g4 : ((k : Int) == 4) = false := by rw [beq_eq_false_iff_ne]; omega
    have g2 : ((k : Int) == 2) = false := by rw [beq_eq_false_iff_ne]; omega
    have g1 : ((k : Int) == 1) = false := by rw [beq_eq_false_iff_ne]; omega
    have g3 : ((k : Int) == 3) = false := by rw [beq_eq_false_iff_ne]; omega
    clear e1 e2 e3 h4 h2 h1 h3
    go_enter Tryz.func202, Tryz.ntmps202
    go_wp2_with fail
    refine bodyPost_ret (v := .agg #[.int .i64 0, .int .i64 0, .int .i64 0]) ?_ rfl ⟨rfl, (Ext.refl w).alloc _⟩
    simp [results, Tryz.results202, go_sem]
theorem texts_any (w : World) :
    Calls Tryz.prog 174 #[] w fun e w' => e = .returned (.agg #[.func (.func 203) #[] #[], .func (.func 204) #[] #[], .func (.func 205) #[] #[]]) ∧ Ext w w' := by
  go_enter Tryz.func174, Tryz.ntmps174
  go_wp2_with fail
  refine bodyPost_ret (v := .agg #[.func (.func 203) #[] #[], .func (.func 204) #[] #[], .func (.func 205) #[] #[]]) ?_ rfl ⟨rfl, (Ext.refl w).alloc _⟩
  simp [results, Tryz.results174, go_sem]
theorem texts_at0 (w : World) : (Instr.index 248 (.agg #[.func (.func 203) #[] #[], .func (.func 204) #[] #[], .func (.func 205) #[] #[]]) (.int .i64 0)).run Tryz.prog w = .ok (.func (.func 203) #[] #[]) w := by show _ = _; kernel_rfl
theorem texts_at1 (w : World) : (Instr.index 248 (.agg #[.func (.func 203) #[] #[], .func (.func 204) #[] #[], .func (.func 205) #[] #[]]) (.int .i64 1)).run Tryz.prog w = .ok (.func (.func 204) #[] #[]) w := by show _ = _; kernel_rfl
theorem texts_at2 (w : World) : (Instr.index 248 (.agg #[.func (.func 203) #[] #[], .func (.func 204) #[] #[], .func (.func 205) #[] #[]]) (.int .i64 2)).run Tryz.prog w = .ok (.func (.func 205) #[] #[]) w := by show _ = _; kernel_rfl
theorem key_of (g : Nat) (w : World) :
    Calls Tryz.prog 203 #[.pointer (some ⟨g, 0, none⟩)] w fun e w' => e = .returned (.pointer (some ⟨g, 1, none⟩)) ∧ w' = w := by
  go_enter Tryz.func203, Tryz.ntmps203
  go_wp2_with fail
  go_ret
  exact ⟨rfl, rfl⟩
theorem old_of (g : Nat) (w : World) :
    Calls Tryz.prog 204 #[.pointer (some ⟨g, 0, none⟩)] w fun e w' => e = .returned (.pointer (some ⟨g, 2, none⟩)) ∧ w' = w := by
  go_enter Tryz.func204, Tryz.ntmps204
  go_wp2_with fail
  go_ret
  exact ⟨rfl, rfl⟩
theorem val_of (g : Nat) (w : World) :
    Calls Tryz.prog 205 #[.pointer (some ⟨g, 0, none⟩)] w fun e w' => e = .returned (.pointer (some ⟨g, 3, none⟩)) ∧ w' = w := by
  go_enter Tryz.func205, Tryz.ntmps205
  go_wp2_with fail
  go_ret
  exact ⟨rfl, rfl⟩
set_option maxHeartbeats 600000 in
theorem mayBallot_any (x y : Int) (w : World) :
    Calls Tryz.prog 85 #[.agg #[.int .i64 x, .int .i64 y]] w fun e w' => e = .returned (.bool (balE x y)) ∧ Ext w w' := by
  have HE := Lib.hid ((Ext.refl w).alloc (.cells #[.int .i64 x, .int .i64 y] 38))
  have hb : balE x y = ((decide (1 ≤ x) && decide (x ≤ 1099511627776)) && (decide (0 ≤ y) && decide (y ≤ 6))) := by
    rw [Bool.eq_iff_iff, balE_iff]
    simp [and_assoc]
  have HB := Lib.hid hb
  rw [hb]
  clear hb
  cases h1 : (decide (1 ≤ x) && decide (x ≤ 1099511627776))
  all_goals
    have H1 := Lib.hid h1
    clear h1
    go_enter Tryz.func85, Tryz.ntmps85
    go_wp2_with fail
    refine (withinE_any _ _ _ _).mono ?_
    rw [H1.out]
    rintro e w1 ⟨rfl, rfl⟩
    go_wp2_with (refine (withinE_any _ _ _ _).mono ?_; rintro e w1 ⟨rfl, rfl⟩)
    go_ret
    exact ⟨rfl, HE.out⟩
end Go.Proofs.YtmacebglfniegaaGreatDoor

namespace Go.Proofs.YtmacebglfniegaaGreatDoor
set_option maxRecDepth 100000
open Go Go.RowKit

theorem str_empty (s : ByteArray) : s.toList.isEmpty = decide (s.size = 0) := by
  rw [ByteArray.toList_eq]
  obtain ⟨⟨l⟩⟩ := s
  cases l with
  | nil => rfl
  | cons x r =>
    have h : ¬ (ByteArray.size ⟨⟨x :: r⟩⟩ = 0) := fun h => by cases h
    rw [decide_eq_false h]
    rfl
theorem str_ne_empty (s : ByteArray) : (!s.toList.isEmpty) = decide (s.size ≠ 0) := by
  rw [str_empty]
  by_cases h : s.size = 0 <;> simp [h]
theorem opOk_big {k : Nat} {key old val : ByteArray} (h : limK k < key.size ∨ limO k < old.size ∨ limV k < val.size) : opOk k key old val = false := by
  rw [Bool.eq_false_iff]
  intro hk
  have := opOk_iff.1 hk
  unfold limK limO limV at h
  split at h <;> split at h <;> split at h <;> omega
theorem opOk_not_big {k : Nat} {key old val : ByteArray} (h : ¬ (limK k < key.size ∨ limO k < old.size ∨ limV k < val.size)) : opOk k key old val = decide (key.size ≠ 0) := by
  rw [Bool.eq_iff_iff, opOk_iff, decide_eq_true_iff]
  unfold limK limO limV at h
  split at h <;> split at h <;> split at h <;> omega
theorem four_cells {w : World} {g : Nat} {x0 x1 x2 x3 : Value} {t : TypeId} (h : w.heap[g]? = some (.cells #[x0, x1, x2, x3] t (0, 0))) :
    w.cell? ⟨g, 0, none⟩ = some x0 ∧ w.cell? ⟨g, 1, none⟩ = some x1 ∧ w.cell? ⟨g, 2, none⟩ = some x2 ∧ w.cell? ⟨g, 3, none⟩ = some x3 :=
  ⟨cell_of_row w g 0 _ _ _ h, cell_of_row w g 1 _ _ _ h, cell_of_row w g 2 _ _ _ h, cell_of_row w g 3 _ _ _ h⟩
theorem three_cellsE {w : World} {g : Nat} {x0 x1 x2 : Value} {t : TypeId} (h : w.heap[g]? = some (.cells #[x0, x1, x2] t (0, 0))) :
    w.cell? ⟨g, 0, none⟩ = some x0 ∧ w.cell? ⟨g, 1, none⟩ = some x1 ∧ w.cell? ⟨g, 2, none⟩ = some x2 :=
  ⟨cell_of_row w g 0 _ _ _ h, cell_of_row w g 1 _ _ _ h, cell_of_row w g 2 _ _ _ h⟩
theorem heap_extE {w w' : World} {g : Nat} {o : Obj} (h : w.heap[g]? = some o) (k : Ext w w') : w'.heap[g]? = some o := (k.block g (Array.getElem?_eq_some_iff.1 h).1).trans h
set_option maxRecDepth 100000 in
set_option maxHeartbeats 1000000 in
theorem mayOp_any (k : Nat) (key old val : ByteArray) (w : World) :
    Calls Tryz.prog 173 #[.agg #[.int .u8 (k : Int), .string key, .string old, .string val]] w fun e w' => e = .returned (.bool (opOk k key old val)) ∧ Ext w w' := by
  have HE := Lib.hid ((Ext.refl w).alloc (.cells #[.int .u8 (k : Int), .string key, .string old, .string val] 40))
  have HT := Lib.hid (heap_alloc_new w (.cells #[.int .u8 (k : Int), .string key, .string old, .string val] 40))
  obtain ⟨a, ha⟩ : ∃ a, limK k = a := ⟨_, rfl⟩
  obtain ⟨b, hb⟩ : ∃ b, limO k = b := ⟨_, rfl⟩
  obtain ⟨c, hc⟩ : ∃ c, limV k = c := ⟨_, rfl⟩
  obtain ⟨r, hr⟩ : ∃ r, opOk k key old val = r := ⟨_, rfl⟩
  rw [hr]
  have HL := Lib.hid (limits_any k)
  rw [ha, hb, hc] at HL
  have fin : ∀ x y : Bool, x = y → Ending.returned (Value.bool x) = .returned (.bool y) := fun x y h => by rw [h]
  go_enter Tryz.func173, Tryz.ntmps173
  go_wp2_with fail
  refine (HL.out _).mono ?_
  rintro e w1 ⟨rfl, hx⟩
  have hT := heap_extE HT.out hx
  have HE := Lib.hid (HE.out.trans hx)
  have hx2 := (Ext.refl w1).alloc (.cells #[.int .i64 a, .int .i64 b, .int .i64 c] 176)
  have HM := Lib.hid (heap_alloc_new w1 (.cells #[.int .i64 a, .int .i64 b, .int .i64 c] 176))
  have HT := Lib.hid (heap_extE hT hx2)
  obtain ⟨i0, i1, i2, i3⟩ := four_cells HT.out
  have HE := Lib.hid (HE.out.trans hx2)
  clear hx hT hx2
  go_wp2_with fail
  have hsz : (w1.alloc (.cells #[.int .i64 a, .int .i64 b, .int .i64 c] 176)).heap.size = w1.heap.size + 1 := by simp
  generalize (w1.alloc (.cells #[.int .i64 a, .int .i64 b, .int .i64 c] 176)) = w2 at *
  have HF := Lib.hid (heap_alloc_new w2 (.cells #[.int .u8 (k : Int), .string key, .string old, .string val] 246))
  have hsz : w2.heap.size = w1.heap.size + 1 := by assumption
  rw [hsz] at HF
  refine (texts_any _).mono ?_
  rintro e w3 ⟨rfl, hx⟩
  have hx2 := ((Ext.refl w2).alloc (.cells #[.int .u8 (k : Int), .string key, .string old, .string val] 246)).trans hx
  have hF := heap_extE HF.out hx
  have hM := heap_extE HM.out hx2
  have hO := heap_extE HT.out hx2
  have HE := Lib.hid (HE.out.trans hx2)
  clear i0 i1 i2 i3 hx hx2
  obtain ⟨f0, f1, f2, f3⟩ := four_cells hF
  obtain ⟨m0, m1, m2⟩ := three_cellsE hM
  obtain ⟨_, o1, _, _⟩ := four_cells hO
  clear hF hM hO f0
  have t0 := texts_at0
  have t1 := texts_at1
  have t2 := texts_at2
  go_wp2_with fail
  refine wp_loop_rounds 4 ?_
  rw [rounds_succ]
  go_wp2_with fail
  go_region_held3 (fun w' => w'.cell? ⟨w1.heap.size + 1, 1, none⟩ = some (.string key) ∧ w'.cell? ⟨w1.heap.size, 0, none⟩ = some (.int .i64 a))
    (first | with_reducible exact ⟨f1, m0⟩ | go_keep)
    (first
      | (go_at_call 203; ((with_reducible refine (key_of _ _).mono ?_); rintro r w' ⟨rfl, rfl⟩)))
  by_cases q : a < (key.size : Int)
  · have HRF : Hid (r = false) := Lib.hid (by rw [← hr]; exact opOk_big (.inl (by omega)))
    clear ha hb hc hr
    go_wp2_with fail
    go_ret
    exact ⟨fin _ _ HRF.out.symm, by first | exact HE.out.drew | exact HE.out.drew.drew | exact HE.out.drew.drew.drew⟩
  have q0 := q
  clear q
  go_wp2_with fail
  rw [rounds_succ]
  go_wp2_with fail
  go_region_held3 (fun w' => w'.cell? ⟨w1.heap.size + 1, 2, none⟩ = some (.string old) ∧ w'.cell? ⟨w1.heap.size, 1, none⟩ = some (.int .i64 b))
    (first | with_reducible exact ⟨f2, m1⟩ | go_keep)
    (first
      | (go_at_call 204; ((with_reducible refine (old_of _ _).mono ?_); rintro r w' ⟨rfl, rfl⟩)))
  by_cases q : b < (old.size : Int)
  · have HRF : Hid (r = false) := Lib.hid (by rw [← hr]; exact opOk_big (.inr (.inl (by omega))))
    clear ha hb hc hr
    go_wp2_with fail
    go_ret
    exact ⟨fin _ _ HRF.out.symm, by first | exact HE.out.drew | exact HE.out.drew.drew | exact HE.out.drew.drew.drew⟩
  have q1 := q
  clear q
  go_wp2_with fail
  rw [rounds_succ]
  go_wp2_with fail
  go_region_held3 (fun w' => w'.cell? ⟨w1.heap.size + 1, 3, none⟩ = some (.string val) ∧ w'.cell? ⟨w1.heap.size, 2, none⟩ = some (.int .i64 c))
    (first | with_reducible exact ⟨f3, m2⟩ | go_keep)
    (first
      | (go_at_call 205; ((with_reducible refine (val_of _ _).mono ?_); rintro r w' ⟨rfl, rfl⟩)))
  by_cases q : c < (val.size : Int)
  · have HRF : Hid (r = false) := Lib.hid (by rw [← hr]; exact opOk_big (.inr (.inr (by omega))))
    clear ha hb hc hr
    go_wp2_with fail
    go_ret
    exact ⟨fin _ _ HRF.out.symm, by first | exact HE.out.drew | exact HE.out.drew.drew | exact HE.out.drew.drew.drew⟩
  have q2 := q
  clear q
  go_wp2_with fail
  rw [rounds_succ]
  go_wp2_with fail
  go_ret
  refine ⟨fin _ _ ?_, HE.out.drew.drew.drew⟩
  rw [← hr, opOk_not_big (by rw [ha, hb, hc]; omega)]
  exact str_ne_empty key
end Go.Proofs.YtmacebglfniegaaGreatDoor

namespace Go.Proofs.YtmacebglfniegaaGreatDoor
set_option maxRecDepth 100000
open Go Go.RowKit

theorem toList_nil (s : ByteArray) : s.toList = [] ↔ s.size = 0 := by
  rw [← List.isEmpty_iff, str_empty, decide_eq_true_iff]
theorem ent_eql_noop (cl sq : Int) (ok : Nat) (key old val : ByteArray) (w : World) :
    (binOp .eql 42 (.agg #[.int .u8 1, .int .i64 cl, .int .i64 sq, .int .u8 (ok : Int), .string key, .string old, .string val]) (.agg #[.int .u8 1, .int .i64 0, .int .i64 0, .int .u8 0, .string ⟨#[]⟩, .string ⟨#[]⟩, .string ⟨#[]⟩])).run Tryz.prog w = .ok (.bool (enOk ⟨1, cl, sq, ok, key, old, val⟩)) w := by
  obtain ⟨r, hr⟩ : ∃ r, enOk ⟨1, cl, sq, ok, key, old, val⟩ = r := ⟨_, rfl⟩
  rw [hr]
  have hf : Tryz.prog.stoodInHeld 42 = false := by kernel_rfl
  have hu := Tryz.underlying42
  have hu2 := Tryz.underlying40
  rw [run_eql_struct, run_equalIn_agg _ _ _ _ _ (by rw [Program.fieldsOf, hu]) hf, Program.fieldsOf, hu]
  simp [Op.eqFields, go_sem]
  simp only [toList_nil]
  have hb : ∀ b : Bool, enOk ⟨1, cl, sq, ok, key, old, val⟩ = b → Result.ok (α := Value) (Value.bool b) w = Result.ok (Value.bool r) w := fun b h => by rw [← h, hr]
  by_cases h1 : cl = 0
  · by_cases h2 : sq = 0
    · by_cases h3 : ok = 0
      · by_cases h4 : key.size = 0
        · by_cases h5 : old.size = 0
          · by_cases h6 : val.size = 0
            · rw [if_pos h1, if_pos h2, if_pos h3, if_pos h4, if_pos h5, if_pos h6]
              exact hb _ (enOk_iff.2 (.inl ⟨rfl, h1, h2, h3, h4, h5, h6⟩))
            · rw [if_pos h1, if_pos h2, if_pos h3, if_pos h4, if_pos h5, if_neg h6]
              exact hb _ (bad_of (by dsimp only; omega))
          · rw [if_pos h1, if_pos h2, if_pos h3, if_pos h4, if_neg h5]
            exact hb _ (bad_of (by dsimp only; omega))
        · rw [if_pos h1, if_pos h2, if_pos h3, if_neg h4]
          exact hb _ (bad_of (by dsimp only; omega))
      · rw [if_pos h1, if_pos h2, if_neg h3]
        exact hb _ (bad_of (by dsimp only; omega))
    · rw [if_pos h1, if_neg h2]
      exact hb _ (bad_of (by dsimp only; omega))
  · rw [if_neg h1]
    exact hb _ (bad_of (by dsimp only; omega))
theorem cast_ne_one (n : Nat) : ((n : Int) != 1) = !(n == 1) := by
  rw [Bool.eq_iff_iff]
  simp
  omega
/-- May an entry of kind 2 be, by parts. -/
theorem enOk_two (cl sq : Int) (ok : Nat) (key old val : ByteArray) : enOk ⟨2, cl, sq, ok, key, old, val⟩ = ((decide (0 ≤ cl) && decide (cl ≤ 3)) && ((decide (1 ≤ sq) && decide (sq ≤ 1099511627776)) && (opOk ok key old val && !(ok == 1)))) := by
  rw [Bool.eq_iff_iff, enOk_iff]
  simp [and_assoc]
set_option maxRecDepth 100000 in
set_option maxHeartbeats 1000000 in
theorem mayE_any (k : Nat) (cl sq : Int) (ok : Nat) (key old val : ByteArray) (w : World) :
    Calls Tryz.prog 140 #[.agg #[.int .u8 (k : Int), .int .i64 cl, .int .i64 sq, .int .u8 (ok : Int), .string key, .string old, .string val]] w fun e w' => e = .returned (.bool (enOk ⟨k, cl, sq, ok, key, old, val⟩)) ∧ Ext w w' := by
  have HE := Lib.hid ((Ext.refl w).alloc (.cells #[.int .u8 (k : Int), .int .i64 cl, .int .i64 sq, .int .u8 (ok : Int), .string key, .string old, .string val] 42))
  have HT := Lib.hid (heap_alloc_new w (.cells #[.int .u8 (k : Int), .int .i64 cl, .int .i64 sq, .int .u8 (ok : Int), .string key, .string old, .string val] 42))
  have fin : ∀ x y : Bool, x = y → Ending.returned (Value.bool x) = .returned (.bool y) := fun x y h => by rw [h]
  by_cases h1 : k = 1
  · subst h1
    have hq := ent_eql_noop cl sq ok key old val
    have hg : Tryz.prog.eqGuardType Tryz.prog.depth 42 = false := by kernel_rfl
    go_enter Tryz.func140, Tryz.ntmps140
    go_wp2_with fail
    go_ret
    exact ⟨rfl, HE.out⟩
  have e1 : ((k : Int) == 1) = false := by rw [beq_eq_false_iff_ne]; omega
  by_cases h2 : k = 2
  · subst h2
    have HC := Lib.hid (enOk_two cl sq ok key old val)
    obtain ⟨q, hq⟩ : ∃ q, enOk ⟨2, cl, sq, ok, key, old, val⟩ = q := ⟨_, rfl⟩
    rw [hq] at HC ⊢
    clear hq e1 h1
    cases b1 : (decide (0 ≤ cl) && decide (cl ≤ 3)) <;> cases b2 : (decide (1 ≤ sq) && decide (sq ≤ 1099511627776)) <;> cases b3 : opOk ok key old val
    all_goals
      rw [b1, b2, b3] at HC
      have B1 := Lib.hid b1
      have B2 := Lib.hid b2
      have B3 := Lib.hid b3
      clear b1 b2 b3
      go_enter Tryz.func140, Tryz.ntmps140
      go_wp2_with fail
      refine (withinE_any _ _ _ _).mono ?_
      rw [B1.out]
      rintro e w1 ⟨rfl, rfl⟩
      go_wp2_with (refine (withinE_any _ _ _ _).mono ?_; rw [B2.out]; rintro e w1 ⟨rfl, rfl⟩)
      first
        | (go_ret; exact ⟨fin _ _ HC.out.symm, HE.out⟩)
        | (refine (mayOp_any _ _ _ _ _).mono ?_
           rw [B3.out]
           rintro e w2 ⟨rfl, hx⟩
           have hc := cell_of_row w2 w.heap.size 3 _ _ _ (heap_extE HT.out hx)
           have HE := Lib.hid (HE.out.trans hx)
           clear hx
           go_wp2_with fail
           go_ret
           refine ⟨fin _ _ ?_, HE.out⟩
           rw [HC.out]
           first
             | rfl
             | (simp only [Bool.true_and]; exact cast_ne_one _))
  · have e2 : ((k : Int) == 2) = false := by rw [beq_eq_false_iff_ne]; omega
    have HB : Hid (enOk ⟨k, cl, sq, ok, key, old, val⟩ = false) := Lib.hid (bad_of (by dsimp only; omega))
    clear h1 h2
    go_enter Tryz.func140, Tryz.ntmps140
    go_wp2_with fail
    go_ret
    exact ⟨fin _ _ HB.out.symm, HE.out⟩
end Go.Proofs.YtmacebglfniegaaGreatDoor

namespace Go.Proofs.YtmacebglfniegaaGreatDoor
set_option maxRecDepth 100000
open Go Go.RowKit

theorem text_by (s : ByteArray) (w : World) (hs : s.size ≤ 255) :
    Calls Tryz.prog 175 #[.string s] w fun e w' => ∃ A' c', e = .returned (.tuple #[.slice A' (s.size + 1) c', .int .i64 0]) ∧ By w' A' (s.size + 1) c' (s.size :: bl s) ∧ Ext w w' :=
  (otext_yes s w hs).mono fun _ _ ⟨A', c', h1, h2, h3⟩ => ⟨A', c', h1, Bs.of_own h2 (by
    intro b hb
    simp only [List.mem_cons] at hb
    rcases hb with rfl | hb
    · omega
    · exact bl_lt s b hb), h3⟩
end Go.Proofs.YtmacebglfniegaaGreatDoor

namespace Go.Proofs.YtmacebglfniegaaGreatDoor
set_option maxRecDepth 100000
open Go Go.RowKit

theorem join4e {A1 A2 A3 A4 : Option Addr} {n1 n2 n3 n4 c1 c2 c3 c4 : Nat} {l1 l2 l3 l4 : List Nat} (w : World) (h1 : By w A1 n1 c1 l1) (h2 : By w A2 n2 c2 l2) (h3 : By w A3 n3 c3 l3) (h4 : By w A4 n4 c4 l4) (hN : n1 + n2 + n3 + n4 ≤ 140737488355328) :
    Calls Tryz.prog 87 #[.slice (some ⟨w.heap.size, 0, none⟩) 4 4] (w.alloc (.cells #[.slice A1 n1 c1, .slice A2 n2 c2, .slice A3 n3 c3, .slice A4 n4 c4] 45)) fun e w' => ∃ A' c', e = .returned (.slice A' (n1 + n2 + n3 + n4) c') ∧ By w' A' (n1 + n2 + n3 + n4) c' (l1 ++ l2 ++ l3 ++ l4) ∧ Ext w w' := by
  have hcat : cat [(.slice A1 n1 c1, l1), (.slice A2 n2 c2, l2), (.slice A3 n3 c3, l3), (.slice A4 n4 c4, l4)] = l1 ++ l2 ++ l3 ++ l4 := by simp [cat]
  rw [← hcat]
  refine join_by _ 4 _ w _ rfl rfl ?_ (by rw [hcat, List.length_append, List.length_append, List.length_append, h1.len, h2.len, h3.len, h4.len]) ?_ (by omega) hN
  · intro p hp
    simp only [List.mem_cons, List.not_mem_nil, or_false] at hp
    rcases hp with rfl | rfl | rfl | rfl
    · exact ⟨_, _, _, rfl, h1⟩
    · exact ⟨_, _, _, rfl, h2⟩
    · exact ⟨_, _, _, rfl, h3⟩
    · exact ⟨_, _, _, rfl, h4⟩
  · rw [hcat]
    intro b hb
    simp only [List.mem_append] at hb
    rcases hb with ((h | h) | h) | h
    · exact h1.rd.lt b h
    · exact h2.rd.lt b h
    · exact h3.rd.lt b h
    · exact h4.rd.lt b h
theorem eput_of (x N : Nat) (w : World) (hL : Laid w) (hf : fitsB x N = true) :
    Calls Tryz.prog 88 #[.int .i64 x, .int .i64 N] w fun e w' => ∃ A' c', e = .returned (.slice A' x c') ∧ By w' A' x c' (digs x N) ∧ Ext w w' := by
  have HC := Lib.hid (put_by x N w hL hf)
  clear hL hf
  go_enter Tryz.func88, Tryz.ntmps88
  go_wp2_with fail
  refine HC.out.mono ?_
  rintro e w1 ⟨A1, c1, rfl, hb, hx⟩
  have HB := Lib.hid hb
  have HX := Lib.hid hx
  clear hb hx
  go_wp2_with fail
  go_ret
  exact ⟨A1, c1, rfl, HB.out, HX.out⟩
theorem four_cells_1 {w : World} {g : Nat} {x0 x1 x2 x3 : Value} {t : TypeId} (h : w.heap[g]? = some (.cells #[x0, x1, x2, x3] t (0, 0))) : w.cell? ⟨g, 0, none⟩ = some x0 ∧ w.cell? ⟨g, 1, none⟩ = some x1 ∧ True := ⟨cell_of_row w g 0 _ _ _ h, cell_of_row w g 1 _ _ _ h, trivial⟩
theorem four_cells_2 {w : World} {g : Nat} {x0 x1 x2 x3 : Value} {t : TypeId} (h : w.heap[g]? = some (.cells #[x0, x1, x2, x3] t (0, 0))) : w.cell? ⟨g, 0, none⟩ = some x0 ∧ w.cell? ⟨g, 2, none⟩ = some x2 ∧ True := ⟨cell_of_row w g 0 _ _ _ h, cell_of_row w g 2 _ _ _ h, trivial⟩
theorem four_cells_3 {w : World} {g : Nat} {x0 x1 x2 x3 : Value} {t : TypeId} (h : w.heap[g]? = some (.cells #[x0, x1, x2, x3] t (0, 0))) : w.cell? ⟨g, 0, none⟩ = some x0 ∧ w.cell? ⟨g, 3, none⟩ = some x3 ∧ True := ⟨cell_of_row w g 0 _ _ _ h, cell_of_row w g 3 _ _ _ h, trivial⟩
set_option maxRecDepth 100000 in
set_option maxHeartbeats 1000000 in
theorem putOp_of (k : Nat) (key old val : ByteArray) (w : World) (hL : Laid w) (hk : k < 256) (h1 : key.size ≤ 255) (h2 : old.size ≤ 255) (h3 : val.size ≤ 255) :
    Calls Tryz.prog 141 #[.agg #[.int .u8 (k : Int), .string key, .string old, .string val]] w fun e w' => ∃ A' c', e = .returned (.slice A' (1 + (key.size + 1) + (old.size + 1) + (val.size + 1)) c') ∧ By w' A' (1 + (key.size + 1) + (old.size + 1) + (val.size + 1)) c' ([k] ++ tx key ++ tx old ++ tx val) ∧ Ext w w' := by
  have hx := (Ext.refl w).alloc (.cells #[.int .u8 (k : Int), .string key, .string old, .string val] 40)
  have HT := Lib.hid (heap_alloc_new w (.cells #[.int .u8 (k : Int), .string key, .string old, .string val] 40))
  have HE := Lib.hid hx
  have HL := Lib.hid (hL.ext hx)
  have HF : Hid (fitsB 1 k = true) := Lib.hid (fits_iff.2 ⟨rfl, by omega, by simpa using hk⟩)
  have HD : Hid (digs 1 k = [k]) := Lib.hid (by simp [digs]; omega)
  have HS := Lib.hid (And.intro h1 (And.intro h2 h3))
  have t0 := texts_at0
  have t1 := texts_at1
  have t2 := texts_at2
  clear hx hL h1 h2 h3
  go_enter Tryz.func141, Tryz.ntmps141
  go_wp2_with fail
  refine (eput_of 1 k _ HL.out HF.out).mono ?_
  rw [HD.out]
  rintro e w1 ⟨A1, c1, rfl, hb, hx⟩
  have hT := heap_extE HT.out hx
  have HE := Lib.hid (HE.out.trans hx)
  have HL := Lib.hid (HL.out.ext hx)
  have HB := Lib.hid hb
  obtain ⟨i0, i1, i2, i3⟩ := four_cells hT
  clear hx hb hT
  go_wp2_with fail
  have hx2 := (Ext.refl w1).alloc (.cells #[.int .u8 (k : Int), .string key, .string old, .string val] 246)
  have hF := heap_alloc_new w1 (.cells #[.int .u8 (k : Int), .string key, .string old, .string val] 246)
  generalize hg : w1.heap.size = g at *
  refine (texts_any _).mono ?_
  rintro e w2 ⟨rfl, hx⟩
  have HF4 := Lib.hid (heap_extE hF hx)
  have HE := Lib.hid (HE.out.trans (hx2.trans hx))
  have HL := Lib.hid (HL.out.ext (hx2.trans hx))
  have HB := Lib.hid (HB.out.ext (hx2.trans hx))
  clear i0 i1 i2 i3 hx hx2 hF
  go_wp2_with fail
  refine wp_loop_rounds 4 ?_
  rw [rounds_succ]
  go_wp2_with fail
  refine (key_of _ _).mono ?_
  rintro e v10 ⟨rfl, rfl⟩
  obtain ⟨_, i1, _⟩ := four_cells_1 HF4.out
  go_wp2_with fail
  refine (text_by key _ HS.out.1).mono ?_
  rintro e v11 ⟨A11, c11, rfl, hb, hx⟩
  have HB2 : Hid (By _ A11 _ c11 (tx key)) := Lib.hid hb
  have HB := Lib.hid (HB.out.ext hx)
  have HE := Lib.hid (HE.out.trans hx)
  have HF4 := Lib.hid (heap_extE HF4.out hx)
  clear hb hx i1
  go_wp2_with fail
  refine (join2_by _ HB.out HB2.out (by have := HS.out; omega)).mono ?_
  rintro e v12 ⟨A12, c12, rfl, hb, hx⟩
  have HB := Lib.hid hb
  have HE := Lib.hid (HE.out.trans hx)
  have HF4 := Lib.hid (heap_extE HF4.out hx)
  clear hb hx HB2
  go_wp2_with fail
  rw [rounds_succ]
  go_wp2_with fail
  refine (old_of _ _).mono ?_
  rintro e v20 ⟨rfl, rfl⟩
  obtain ⟨_, i2, _⟩ := four_cells_2 HF4.out
  go_wp2_with fail
  refine (text_by old _ HS.out.2.1).mono ?_
  rintro e v21 ⟨A21, c21, rfl, hb, hx⟩
  have HB2 : Hid (By _ A21 _ c21 (tx old)) := Lib.hid hb
  have HB := Lib.hid (HB.out.ext hx)
  have HE := Lib.hid (HE.out.trans hx)
  have HF4 := Lib.hid (heap_extE HF4.out hx)
  clear hb hx i2
  go_wp2_with fail
  refine (join2_by _ HB.out HB2.out (by have := HS.out; omega)).mono ?_
  rintro e v22 ⟨A22, c22, rfl, hb, hx⟩
  have HB := Lib.hid hb
  have HE := Lib.hid (HE.out.trans hx)
  have HF4 := Lib.hid (heap_extE HF4.out hx)
  clear hb hx HB2
  go_wp2_with fail
  rw [rounds_succ]
  go_wp2_with fail
  refine (val_of _ _).mono ?_
  rintro e v30 ⟨rfl, rfl⟩
  obtain ⟨_, i3, _⟩ := four_cells_3 HF4.out
  go_wp2_with fail
  refine (text_by val _ HS.out.2.2).mono ?_
  rintro e v31 ⟨A31, c31, rfl, hb, hx⟩
  have HB2 : Hid (By _ A31 _ c31 (tx val)) := Lib.hid hb
  have HB := Lib.hid (HB.out.ext hx)
  have HE := Lib.hid (HE.out.trans hx)
  have HF4 := Lib.hid (heap_extE HF4.out hx)
  clear hb hx i3
  go_wp2_with fail
  refine (join2_by _ HB.out HB2.out (by have := HS.out; omega)).mono ?_
  rintro e v32 ⟨A32, c32, rfl, hb, hx⟩
  have HB := Lib.hid hb
  have HE := Lib.hid (HE.out.trans hx)
  have HF4 := Lib.hid (heap_extE HF4.out hx)
  clear hb hx HB2
  go_wp2_with fail
  rw [rounds_succ]
  go_wp2_with fail
  go_ret
  exact ⟨_, _, rfl, HB.out, HE.out⟩
end Go.Proofs.YtmacebglfniegaaGreatDoor

namespace Go.Proofs.YtmacebglfniegaaGreatDoor
set_option maxRecDepth 100000
open Go Go.RowKit

end Go.Proofs.YtmacebglfniegaaGreatDoor

namespace Go.Proofs.YtmacebglfniegaaGreatDoor
set_option maxRecDepth 100000
open Go Go.RowKit

/-- A reader at a place of bytes. -/
structure RdS (w : World) (g : Nat) (A : Option Addr) (n c : Nat) (l : List Nat) (a : Nat) (sh : Bool) : Prop where
  row : w.heap[g]? = some (.cells #[.slice A n c, .int .i64 (a : Int), .bool sh] 255 (0, 0))
  by_ : By w A n c l
  off : 0 < n → ∀ p, A = some p → p.block ≠ g
  le : a ≤ l.length
  most : n ≤ 9000000000000000000
  laid : Laid w
section
variable {w w' : World} {g n c a : Nat} {A : Option Addr} {l : List Nat} {sh : Bool}
theorem RdS.lt (h : RdS w g A n c l a sh) : g < w.heap.size := (Array.getElem?_eq_some_iff.1 h.row).1
theorem by_mod {G : Nat → Prop} (h : By w A n c l) (k : Mod G w w') (ho : 0 < n → ∀ p, A = some p → ¬ G p.block) : By w' A n c l := by
  by_cases h0 : 0 < n
  · exact By.mod h k fun p hp => ho h0 p hp
  · refine ⟨h.len, h.cap, h.most, ⟨h.rd.1, fun hn => ?_⟩, Bs.nil_ h⟩
    have := h.len
    omega
theorem laid_mod {G : Nat → Prop} (h : Laid w) (k : Mod G w w') (hg : ¬ G 3) : Laid w' := by
  have hlt : 3 < w.heap.size := World.block_lt_of_cell? w _ h.1
  have hb := k.block _ hlt hg
  unfold Laid at h ⊢
  obtain ⟨h0, h1, h2, h3, h4, h5, h6⟩ := h
  exact ⟨(World.cell?_of_block (a := ⟨_, _, none⟩) hb).trans h0, (World.cell?_of_block (a := ⟨_, _, none⟩) hb).trans h1, (World.cell?_of_block (a := ⟨_, _, none⟩) hb).trans h2, (World.cell?_of_block (a := ⟨_, _, none⟩) hb).trans h3, (World.cell?_of_block (a := ⟨_, _, none⟩) hb).trans h4, (World.cell?_of_block (a := ⟨_, _, none⟩) hb).trans h5, (World.cell?_of_block (a := ⟨_, _, none⟩) hb).trans h6⟩
theorem RdS.glob (h : RdS w g A n c l a sh) : 3 ≠ g := by
  intro e
  have h1 := h.laid.1
  have h2 := cell_of_row w g 0 _ _ _ h.row
  rw [← e] at h2
  have h3 := h1.symm.trans h2
  simp at h3
/-- The reader goes on: its block alone is written. -/
theorem RdS.step {a' : Nat} {sh' : Bool} (h : RdS w g A n c l a sh) (k : Mod (fun i => i = g) w w') (hr : w'.heap[g]? = some (.cells #[.slice A n c, .int .i64 (a' : Int), .bool sh'] 255 (0, 0))) (hle : a' ≤ l.length) : RdS w' g A n c l a' sh' :=
  ⟨hr, by_mod h.by_ k h.off, h.off, hle, h.most, laid_mod h.laid k h.glob⟩
theorem RdS.ext (h : RdS w g A n c l a sh) (k : Ext w w') : RdS w' g A n c l a sh :=
  ⟨(k.block g h.lt).trans h.row, h.by_.ext k, h.off, h.le, h.most, h.laid.ext k⟩
theorem RdS.mod {G : Nat → Prop} (h : RdS w g A n c l a sh) (k : Mod G w w') (hG : ∀ i, G i → w.heap.size ≤ i) : RdS w' g A n c l a sh := h.ext (k.to_ext hG)
end
theorem rdr_set {w : World} {g i : Nat} {cs : Array Value} {t : TypeId} (h : w.heap[g]? = some (.cells cs t (0, 0))) (v : Value) : (w.setCell ⟨g, i, none⟩ v).heap[g]? = some (.cells (cs.setIfInBounds i v) t (0, 0)) := by
  rw [setCell_eq_setRow w g i _ _ _ v h]
  exact setRow_heap w g _ (cs.setIfInBounds i v) _ _ h
theorem mod_set {w : World} (g i : Nat) (v : Value) : Mod (fun k => k = g) w (w.setCell ⟨g, i, none⟩ v) := Mod.setCell (F := fun k => k = g) (Mod.refl (fun k => k = g) w) (p := ⟨g, i, none⟩) (.inl rfl) v
end Go.Proofs.YtmacebglfniegaaGreatDoor
