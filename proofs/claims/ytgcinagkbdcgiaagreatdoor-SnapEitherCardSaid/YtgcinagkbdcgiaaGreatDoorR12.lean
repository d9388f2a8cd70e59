/-
  Plain facts on slots, without any program: what a slot is, by its record and its two frames; over which frame the next put goes; puts that end anywhere.
-/
import Derived.Test.YtgcinagkbdcgiaaGreatDoorR00
import Derived.Test.YtgcinagkbdcgiaaGreatDoorR10
import Derived.Test.YtgcinagkbdcgiaaGreatDoorR11
namespace Go.Proofs.YtgcinagkbdcgiaaGreatDoor
set_option maxRecDepth 100000
section
open Go
structure Rec where
  st : Nat := 0
  ix : Int := 0
  bx : Int := 0
  yb : Int := 0
  wh : Int := 0
instance : Inhabited Rec := ⟨{}⟩
structure CopL where
  st : Nat := 0
  ix : Int := 0
  bx : Int := 0
  yb : Int := 0
  e : Ent := {}
instance : Inhabited CopL := ⟨{}⟩
def Rec.of (p : Rec) (i : Int) : Prop := p.st = 1 ∧ p.ix = i
def CopL.of (c : CopL) (i : Int) : Prop := c.st = 1 ∧ c.ix = i
def gtL (x y a b : Int) : Prop := a < x ∨ (a = x ∧ b < y)
instance (p : Rec) (i : Int) : Decidable (p.of i) := by unfold Rec.of; exact inferInstance
instance (c : CopL) (i : Int) : Decidable (c.of i) := by unfold CopL.of; exact inferInstance
instance (x y a b : Int) : Decidable (gtL x y a b) := by unfold gtL; exact inferInstance
def beyL (p : Rec) (f0 f1 : CopL) (i : Int) : Prop := (p.st = 1 ∧ i < p.ix) ∨ (f0.st = 1 ∧ i < f0.ix) ∨ (f1.st = 1 ∧ i < f1.ix)
def badL (f0 f1 : CopL) : Prop := f0.st = 2 ∨ f1.st = 2
instance (p : Rec) (f0 f1 : CopL) (i : Int) : Decidable (beyL p f0 f1 i) := by unfold beyL; exact inferInstance
instance (f0 f1 : CopL) : Decidable (badL f0 f1) := by unfold badL; exact inferInstance
def candL (p : Rec) (c : CopL) (i : Int) : Prop := c.of i ∧ ¬ gtL p.bx p.yb c.bx c.yb
instance (p : Rec) (c : CopL) (i : Int) : Decidable (candL p c i) := by unfold candL; exact inferInstance
def pickW (a b h : Prop) [Decidable a] [Decidable b] [Decidable h] : Int := if a ∧ b then (if h then 1 else 0) else if a then 0 else if b then 1 else -1
def whereL (p : Rec) (f0 f1 : CopL) (i : Int) : Int :=
  if p.of i then (if p.wh = 1 then pickW (candL p f0 i) (candL p f1 i) (¬ gtL f0.bx f0.yb f1.bx f1.yb) else pickW (candL p f0 i) (candL p f1 i) (gtL f1.bx f1.yb f0.bx f0.yb))
  else if beyL p f0 f1 i ∨ (p.st = 2 ∧ badL f0 f1) then -1
  else pickW (f0.of i) (f1.of i) (gtL f1.bx f1.yb f0.bx f0.yb)
def classL (p : Rec) (f0 f1 : CopL) (i : Int) : Nat :=
  if 0 ≤ whereL p f0 f1 i then 3 else if p.of i then 2 else if beyL p f0 f1 i ∨ (p.st = 2 ∧ badL f0 f1) then 2 else if badL f0 f1 then 1 else 0
def nextL (p : Rec) (f0 f1 : CopL) (i : Int) : Int :=
  if 0 ≤ whereL p f0 f1 i then 1 - whereL p f0 f1 i else if p.st = 1 ∧ p.wh = 0 then 1 else 0
def cop (f0 f1 : CopL) (k : Int) : CopL := if k = 0 then f0 else f1
def repX (p : Rec) (f0 f1 : CopL) (i : Int) : Int := if 0 ≤ whereL p f0 f1 i then (cop f0 f1 (whereL p f0 f1 i)).bx else if p.of i then p.bx else 0
def repY (p : Rec) (f0 f1 : CopL) (i : Int) : Int := if 0 ≤ whereL p f0 f1 i then (cop f0 f1 (whereL p f0 f1 i)).yb else if p.of i then p.yb else 0
def repE (p : Rec) (f0 f1 : CopL) (i : Int) : Ent := if 0 ≤ whereL p f0 f1 i then (cop f0 f1 (whereL p f0 f1 i)).e else {}
theorem pickW_cases {a b h : Prop} [Decidable a] [Decidable b] [Decidable h] : (pickW a b h = -1 ∧ ¬ a ∧ ¬ b) ∨ (pickW a b h = 0 ∧ a ∧ (b → ¬ h)) ∨ (pickW a b h = 1 ∧ b ∧ (a → h)) := by
  unfold pickW
  by_cases ha : a <;> by_cases hb : b <;> by_cases hh : h <;> simp [ha, hb, hh]
theorem whereL_of {p : Rec} {f0 f1 : CopL} {i : Int} : (whereL p f0 f1 i = -1) ∨ (whereL p f0 f1 i = 0 ∧ f0.of i) ∨ (whereL p f0 f1 i = 1 ∧ f1.of i) := by
  unfold whereL
  split
  · split
    · rcases pickW_cases (a := candL p f0 i) (b := candL p f1 i) (h := ¬ gtL f0.bx f0.yb f1.bx f1.yb) with h | h | h
      · exact .inl h.1
      · exact .inr (.inl ⟨h.1, h.2.1.1⟩)
      · exact .inr (.inr ⟨h.1, h.2.1.1⟩)
    · rcases pickW_cases (a := candL p f0 i) (b := candL p f1 i) (h := gtL f1.bx f1.yb f0.bx f0.yb) with h | h | h
      · exact .inl h.1
      · exact .inr (.inl ⟨h.1, h.2.1.1⟩)
      · exact .inr (.inr ⟨h.1, h.2.1.1⟩)
  · split
    · exact .inl rfl
    · rcases pickW_cases (a := f0.of i) (b := f1.of i) (h := gtL f1.bx f1.yb f0.bx f0.yb) with h | h | h
      · exact .inl h.1
      · exact .inr (.inl ⟨h.1, h.2.1⟩)
      · exact .inr (.inr ⟨h.1, h.2.1⟩)
theorem nextL_two (p : Rec) (f0 f1 : CopL) (i : Int) : (nextL p f0 f1 i = 0 ∨ nextL p f0 f1 i = 1) ∧ (0 ≤ whereL p f0 f1 i → nextL p f0 f1 i ≠ whereL p f0 f1 i) := by
  unfold nextL
  rcases whereL_of (p := p) (f0 := f0) (f1 := f1) (i := i) with h | ⟨h, _⟩ | ⟨h, _⟩ <;> rw [h]
  · rw [if_neg (by omega)]
    split <;> simp
  · simp
  · simp
theorem classL_three {p : Rec} {f0 f1 : CopL} {i : Int} : classL p f0 f1 i = 3 ↔ 0 ≤ whereL p f0 f1 i := by
  unfold classL
  by_cases h : 0 ≤ whereL p f0 f1 i
  · simp [h]
  · simp only [h, if_false]
    constructor
    · intro hh
      split at hh
      · omega
      · split at hh
        · omega
        · split at hh <;> omega
    · intro hh
      cases hh
structure TInv (i r a : Int) (p : Rec) (f0 f1 : CopL) : Prop where
  p1 : p.st ≤ 1
  p2 : p.st = 1 → p.ix ≤ i
  p3 : p.wh = 0 ∨ p.wh = 1
  a1 : f0.st ≤ 2
  a2 : f0.st = 1 → f0.ix ≤ i
  a3 : f0.of i → f0.yb = 1 ∧ 2 ≤ f0.bx ∧ f0.bx ≤ r
  b1 : f1.st ≤ 2
  b2 : f1.st = 1 → f1.ix ≤ i
  b3 : f1.of i → f1.yb = 1 ∧ 2 ≤ f1.bx ∧ f1.bx ≤ r
  q1 : p.of i → p.yb = 1 ∧ 2 ≤ p.bx ∧ p.bx ≤ r ∧ a = p.bx
  q2 : p.of i → (f0.of i ∧ p.bx ≤ f0.bx) ∨ (f1.of i ∧ p.bx ≤ f1.bx)
  q3 : ¬ p.of i → a = 0
theorem TInv.where_ {i r a : Int} {p : Rec} {f0 f1 : CopL} (h : TInv i r a p f0 f1) :
    (whereL p f0 f1 i = -1 ∧ ¬ p.of i ∧ ¬ f0.of i ∧ ¬ f1.of i) ∨
    (whereL p f0 f1 i = 0 ∧ f0.of i ∧ (p.of i → p.bx ≤ f0.bx) ∧ (f1.of i → f1.bx ≤ f0.bx)) ∨
    (whereL p f0 f1 i = 1 ∧ f1.of i ∧ (p.of i → p.bx ≤ f1.bx) ∧ (f0.of i → f0.bx ≤ f1.bx)) := by
  unfold whereL
  by_cases hp : p.of i
  · rw [if_pos hp]
    obtain ⟨y1, y2, y3, y4⟩ := h.q1 hp
    have hq := h.q2 hp
    have c0 : candL p f0 i ↔ f0.of i ∧ p.bx ≤ f0.bx := by
      unfold candL gtL
      constructor
      · rintro ⟨h1, h2⟩; exact ⟨h1, by have := h.a3 h1; omega⟩
      · rintro ⟨h1, h2⟩; exact ⟨h1, by have := h.a3 h1; omega⟩
    have c1 : candL p f1 i ↔ f1.of i ∧ p.bx ≤ f1.bx := by
      unfold candL gtL
      constructor
      · rintro ⟨h1, h2⟩; exact ⟨h1, by have := h.b3 h1; omega⟩
      · rintro ⟨h1, h2⟩; exact ⟨h1, by have := h.b3 h1; omega⟩
    have g1 : f0.of i → f1.of i → (gtL f0.bx f0.yb f1.bx f1.yb ↔ f1.bx < f0.bx) := fun x y => by
      unfold gtL
      have := h.a3 x
      have := h.b3 y
      omega
    have g2 : f0.of i → f1.of i → (gtL f1.bx f1.yb f0.bx f0.yb ↔ f0.bx < f1.bx) := fun x y => by
      unfold gtL
      have := h.a3 x
      have := h.b3 y
      omega
    have two : ∀ hh : Prop, ∀ [Decidable hh], (f0.of i → f1.of i → (hh → f0.bx ≤ f1.bx) ∧ (¬ hh → f1.bx ≤ f0.bx)) →
        (pickW (candL p f0 i) (candL p f1 i) hh = -1 ∧ ¬ p.of i ∧ ¬ f0.of i ∧ ¬ f1.of i) ∨
        (pickW (candL p f0 i) (candL p f1 i) hh = 0 ∧ f0.of i ∧ (p.of i → p.bx ≤ f0.bx) ∧ (f1.of i → f1.bx ≤ f0.bx)) ∨
        (pickW (candL p f0 i) (candL p f1 i) hh = 1 ∧ f1.of i ∧ (p.of i → p.bx ≤ f1.bx) ∧ (f0.of i → f0.bx ≤ f1.bx)) := by
      intro hh _ hc
      rcases pickW_cases (a := candL p f0 i) (b := candL p f1 i) (h := hh) with ⟨e, n0, n1⟩ | ⟨e, n0, n1⟩ | ⟨e, n0, n1⟩
      · rw [c0] at n0
        rw [c1] at n1
        exact absurd hq fun hq => hq.elim n0 n1
      · have m0 := c0.1 n0
        refine .inr (.inl ⟨e, m0.1, fun _ => m0.2, fun hf1 => ?_⟩)
        by_cases hb : candL p f1 i
        · exact (hc m0.1 hf1).2 (n1 hb)
        · rw [c1] at hb
          have : ¬ p.bx ≤ f1.bx := fun hx => hb ⟨hf1, hx⟩
          omega
      · have m1 := c1.1 n0
        refine .inr (.inr ⟨e, m1.1, fun _ => m1.2, fun hf0 => ?_⟩)
        by_cases hb : candL p f0 i
        · exact (hc hf0 m1.1).1 (n1 hb)
        · rw [c0] at hb
          have : ¬ p.bx ≤ f0.bx := fun hx => hb ⟨hf0, hx⟩
          omega
    split
    · exact two _ fun x y => ⟨fun hh => by rw [g1 x y] at hh; omega, fun hh => by rw [g1 x y] at hh; omega⟩
    · exact two _ fun x y => ⟨fun hh => by rw [g2 x y] at hh; omega, fun hh => by rw [g2 x y] at hh; omega⟩
  · rw [if_neg hp, if_neg (by
      intro hh
      unfold beyL at hh
      rcases hh with (⟨h1, h2⟩ | ⟨h1, h2⟩ | ⟨h1, h2⟩) | ⟨h1, _⟩
      · have := h.p2 h1; omega
      · have := h.a2 h1; omega
      · have := h.b2 h1; omega
      · have := h.p1; omega)]
    rcases pickW_cases (a := f0.of i) (b := f1.of i) (h := gtL f1.bx f1.yb f0.bx f0.yb) with ⟨e, n0, n1⟩ | ⟨e, n0, n1⟩ | ⟨e, n0, n1⟩
    · exact .inl ⟨e, hp, n0, n1⟩
    · refine .inr (.inl ⟨e, n0, fun hh => absurd hh hp, fun hf1 => ?_⟩)
      have := n1 hf1
      unfold gtL at this
      have := h.a3 n0
      have := h.b3 hf1
      omega
    · refine .inr (.inr ⟨e, n0, fun hh => absurd hh hp, fun hf0 => ?_⟩)
      have := n1 hf0
      unfold gtL at this
      have := h.a3 hf0
      have := h.b3 n0
      omega
end
section
open Go
theorem TInv.blank (i : Int) : TInv i 2 0 {} {} {} := by
  have n0 : ¬ CopL.of {} i := fun h => by have := h.1; cases this
  have np : ¬ Rec.of {} i := fun h => by have := h.1; cases this
  exact ⟨by simp, fun x => by simp at x, .inl rfl, by simp, fun x => by simp at x, fun x => absurd x n0, by simp, fun x => by simp at x, fun x => absurd x n0, fun x => absurd x np, fun x => absurd x np, fun _ => rfl⟩
end
section
open Go
def recB (x y h : Int) : Bool := balE x y && decide (h = 0 ∨ h = 1)
theorem recB_iff {x y h : Int} : recB x y h = true ↔ (1 ≤ x ∧ x ≤ 1099511627776 ∧ 0 ≤ y ∧ y ≤ 6) ∧ (h = 0 ∨ h = 1) := by
  unfold recB
  rw [Bool.and_eq_true, balE_iff, decide_eq_true_iff]
def recL (x y h : Int) : List Nat := digs 6 x.toNat ++ [y.toNat] ++ [h.toNat]
theorem recL_length (x y h : Int) : (recL x y h).length = 8 := by unfold recL; simp [digs_length]
theorem recL_lt {x y h : Int} (hb : recB x y h = true) : ∀ z ∈ recL x y h, z < 256 := by
  have hb := recB_iff.1 hb
  intro z hz
  unfold recL at hz
  simp only [List.mem_append, List.mem_singleton] at hz
  rcases hz with (hz | hz) | hz
  · exact digs_lt _ _ _ hz
  · omega
  · omega
def recR (l : List Nat) : Option (Nat × Nat × Nat) :=
  if l.length = 8 ∧ l.getD 7 0 ≤ 1 ∧ balE (num (l.take 6) : Nat) (l.getD 6 0 : Nat) = true then some (num (l.take 6), l.getD 6 0, l.getD 7 0) else none
theorem rec_back {x y h : Int} (hb : recB x y h = true) : ∃ a b c : Nat, x = a ∧ y = b ∧ h = c ∧ recR (recL x y h) = some (a, b, c) := by
  have hbb := recB_iff.1 hb
  obtain ⟨a, rfl⟩ := Int.eq_ofNat_of_zero_le (show 0 ≤ x by omega)
  obtain ⟨b, rfl⟩ := Int.eq_ofNat_of_zero_le (show 0 ≤ y by omega)
  obtain ⟨c, rfl⟩ := Int.eq_ofNat_of_zero_le (show 0 ≤ h by omega)
  refine ⟨a, b, c, rfl, rfl, rfl, ?_⟩
  have ht : (recL (a : Int) (b : Int) (c : Int)).take 6 = digs 6 a := by
    unfold recL
    rw [List.append_assoc, List.take_append_of_le_length (by rw [digs_length]; exact Nat.le_refl _), List.take_of_length_le (by rw [digs_length]; exact Nat.le_refl _)]
    rfl
  have h6 : (recL (a : Int) (b : Int) (c : Int)).getD 6 0 = b := by
    rw [List.getD_eq_getElem?_getD]
    unfold recL
    rw [List.append_assoc, List.getElem?_append_right (by rw [digs_length]; exact Nat.le_refl _), digs_length]
    rfl
  have h7 : (recL (a : Int) (b : Int) (c : Int)).getD 7 0 = c := by
    rw [List.getD_eq_getElem?_getD]
    unfold recL
    rw [List.append_assoc, List.getElem?_append_right (by rw [digs_length]; omega), digs_length]
    rfl
  unfold recR
  have hbal : balE (a : Int) (b : Int) = true := balE_iff.2 hbb.1
  rw [recL_length, ht, h6, h7, num_digs 6 a (by omega), if_pos ⟨rfl, by omega, hbal⟩]
end
section
def pair2 (a b : List Nat) : List Nat := if a = [] ∨ b = [] then [] else a ++ b
def recQ (r q : Int) (x : List Nat) : Rec :=
  if stM x r 3 q = 1 then (match recR (mbl x r 3 q) with | some (a, b, h) => { st := 1, ix := (mfl x r 3 q 3 : Nat), bx := (a : Nat), yb := (b : Nat), wh := (h : Nat) } | none => { st := 2 }) else { st := stM x r 3 q }
def copQ (r p : Int) (x : List Nat) : CopL :=
  if stM x r 4 p = 1 then (match bdR (mbl x r 4 p) with | some (a, b, e) => { st := 1, ix := (mfl x r 4 p 3 : Nat), bx := (a : Nat), yb := (b : Nat), e := e } | none => { st := 2 }) else { st := stM x r 4 p }
def DM.recM (m : DM) (r q : Int) : Rec := recQ r q (m.cb 3 q)
def DM.fb (m : DM) (p : Int) : List Nat := pair2 (m.read (firstS 4 p)).1 (m.read (firstS 4 p + 1)).1
def DM.copM (m : DM) (r p : Int) : CopL := copQ r p (m.fb p)
def DM.put2C (m : DM) (s : Int) (L : List Nat) : Int × DM :=
  if (m.write s (L.take 64)).1 ≠ 0 then m.write s (L.take 64) else
    if ((m.write s (L.take 64)).2.write (s + 1) (L.drop 64)).1 ≠ 0 then (m.write s (L.take 64)).2.write (s + 1) (L.drop 64) else ((m.write s (L.take 64)).2.write (s + 1) (L.drop 64)).2.flush
def frmW (r inc i : Int) (p x y : Int) (e : Ent) : List Nat := sealL r 4 p i inc (bodyL x y e) 2
def recW (r inc i : Int) (q x y k : Int) : List Nat := sealL r 3 q i inc (recL x y k) 1
def DM.putK (m : DM) (r inc i q k x y : Int) (e : Ent) : Int × DM :=
  if (m.put2C (firstS 4 (2 * q + k)) (frmW r inc i (2 * q + k) x y e)).1 ≠ 0 then m.put2C (firstS 4 (2 * q + k)) (frmW r inc i (2 * q + k) x y e) else
    (m.put2C (firstS 4 (2 * q + k)) (frmW r inc i (2 * q + k) x y e)).2.putC (firstS 3 q) (recW r inc i q x y k)
def placeW (i : Int) : Int := (i - 1) % 24
def DM.nextW (m : DM) (r i : Int) : Int := nextL (m.recM r (placeW i)) (m.copM r (2 * placeW i)) (m.copM r (2 * placeW i + 1)) i
def DM.putW (m : DM) (r inc i x y : Int) (e : Ent) : Int × DM := m.putK r inc i (placeW i) (m.nextW r i) x y e
def sR (q : Nat) : Nat := 4 + q
def sF (p : Nat) : Nat := 28 + 2 * p
theorem first3 {q : Nat} (h : q < 24) : firstS 3 (q : Int) = (sR q : Nat) := by
  unfold firstS sR
  rw [if_pos (by simp [plc]; omega)]
  simp [beg, wid]
theorem first4 {p : Nat} (h : p < 48) : firstS 4 (p : Int) = (sF p : Nat) := by
  unfold firstS sF
  rw [if_pos (by simp [plc]; omega)]
  simp [beg, wid]
  omega
theorem sR_lt {q : Nat} (h : q < 24) : sR q < 156 := by unfold sR; omega
theorem sF_lt {p : Nat} (h : p < 48) : sF p + 1 < 156 := by unfold sF; omega
theorem nilW_bad (r g p : Int) : stM [] r g p = 2 := by
  have hz : szB [] = false := by decide
  rw [(mine_bad (size_bad hz)).1]
  exact stN_size hz
theorem recQ_nil (r q : Int) : recQ r q [] = { st := 2 } := by unfold recQ; rw [nilW_bad]; rfl
theorem copQ_nil (r p : Int) : copQ r p [] = { st := 2 } := by unfold copQ; rw [nilW_bad]; rfl
theorem sealW3 {r inc i q x y k : Int} (hm : mayB r 3 q i inc = true) : sealE r 3 q i inc (recL x y k).length 1 = 0 := sealE_yes (by decide) hm (by rw [recL_length, roomN_one]; omega)
theorem sealW4 {r inc i p x y : Int} {e : Ent} (hm : mayB r 4 p i inc = true) (he : enOk e = true) : sealE r 4 p i inc (bodyL x y e).length 2 = 0 := sealE_yes (by decide) hm (by have := bodyL_len (x := x) (y := y) he; rw [roomN_two]; omega)
theorem recW_back {r inc i q x y k : Int} (hm : mayB r 3 q i inc = true) (hb : balE x y = true) (hk : k = 0 ∨ k = 1) : recQ r q (recW r inc i q x y k) = { st := 1, ix := i, bx := x, yb := y, wh := k } := by
  obtain ⟨h1, _, h3, _, _, _, h4, _⟩ := seal_mine (sealW3 (x := x) (y := y) (k := k) hm)
  obtain ⟨a, b, c, ea, eb, ec, hr⟩ := rec_back (recB_iff.2 ⟨balE_iff.1 hb, hk⟩)
  unfold recQ recW
  rw [if_pos h1, h3, hr]
  simp only
  rw [h4, ← ea, ← eb, ← ec]
theorem frmW_back {r inc i p x y : Int} {e : Ent} (hm : mayB r 4 p i inc = true) (hb : balE x y = true) (he : enOk e = true) : copQ r p (frmW r inc i p x y e) = { st := 1, ix := i, bx := x, yb := y, e := e } := by
  obtain ⟨h1, _, h3, _, _, _, h4, _⟩ := seal_mine (sealW4 (x := x) (y := y) hm he)
  obtain ⟨a, b, ea, eb, hr⟩ := bd_back he hb
  unfold copQ frmW
  rw [if_pos h1, h3, hr]
  simp only
  rw [h4, ← ea, ← eb]
theorem recW_sect {r inc i q x y k : Int} (hm : mayB r 3 q i inc = true) (hb : recB x y k = true) : Sect (recW r inc i q x y k) := by
  have hE := sealW3 (x := x) (y := y) (k := k) hm
  exact ⟨by unfold recW; rw [(sealL_len hE).1]; rfl, sealL_lt (recL_lt hb)⟩
theorem frmW_sects {r inc i p x y : Int} {e : Ent} (hm : mayB r 4 p i inc = true) (hb : balE x y = true) (he : enOk e = true) : Sect ((frmW r inc i p x y e).take 64) ∧ Sect ((frmW r inc i p x y e).drop 64) ∧ pair2 ((frmW r inc i p x y e).take 64) ((frmW r inc i p x y e).drop 64) = frmW r inc i p x y e := by
  have hE := sealW4 (x := x) (y := y) hm he
  have hl : (frmW r inc i p x y e).length = 128 := by unfold frmW; rw [(sealL_len hE).1]; rfl
  have hb : ∀ z ∈ frmW r inc i p x y e, z < 256 := sealL_lt (bodyL_lt he hb)
  have h1 : ((frmW r inc i p x y e).take 64).length = 64 := by rw [List.length_take, hl]; rfl
  have h2 : ((frmW r inc i p x y e).drop 64).length = 64 := by rw [List.length_drop, hl]
  refine ⟨⟨h1, fun z hz => hb z (List.mem_of_mem_take hz)⟩, ⟨h2, fun z hz => hb z (List.mem_of_mem_drop hz)⟩, ?_⟩
  unfold pair2
  rw [if_neg (by
    rintro (h | h)
    · rw [h] at h1; cases h1
    · rw [h] at h2; cases h2), List.take_append_drop]
end
section
structure Tch (m : DM) (T : Nat → Prop) (h0 : Nat → List Nat) : Prop where
  ok : m.Ok
  size : m.size = 156
  down : m.down = false
  waits : ∀ x ∈ m.waits, T x.1
  hold : ∀ t, ¬ T t → m.hold t = h0 t
section
variable {m : DM} {T : Nat → Prop} {h0 : Nat → List Nat}
theorem Tch.of_eq {m' : DM} (h : Tch m T h0) (hok : m'.Ok) (hs : m'.size = m.size) (hd : m'.down = m.down) (hw : m'.waits = m.waits) (h1 : m'.rest = m.rest) (h2 : m'.lost = m.lost) : Tch m' T h0 :=
  ⟨hok, hs.trans h.size, hd.trans h.down, by rw [hw]; exact h.waits, fun t ht => by rw [← h.hold t ht]; unfold DM.hold; rw [h1, h2]⟩
theorem Tch.write (h : Tch m T h0) {s : Nat} (hs : T s) {L : List Nat} (hb : ∀ x ∈ L, x < 256) : Tch (m.write (s : Int) L).2 T h0 := by
  have hok := DM.write_ok h.ok (s : Int) hb
  unfold DM.write at hok ⊢
  split
  · exact h
  · split
    · exact h
    · split
      · exact h.of_eq ⟨h.ok.meant, h.ok.lost, h.ok.rests, h.ok.means, h.ok.waits, h.ok.power⟩ rfl rfl rfl rfl rfl
      · rename_i h1 h2 h3
        rw [if_neg h1, if_neg h2, if_neg h3] at hok
        refine ⟨hok, h.size, h.down, fun x hx => ?_, h.hold⟩
        rcases List.mem_append.1 hx with hx | hx
        · exact h.waits x hx
        · simp only [List.mem_singleton] at hx
          subst hx
          exact hs
theorem Tch.comes (h : Tch m T h0) {l : List (Nat × List Nat)} (hl : ∀ x ∈ l, x ∈ m.waits) : ∀ t, ¬ T t → (m.comes l).hold t = h0 t := fun t ht => by
  have hn : lastW l t = none := lastW_none fun x hx he => ht (by rw [← he]; exact h.waits x (hl x hx))
  rw [hold_comes h.ok fun x hx => (h.ok.waits x (hl x hx)).1, hn]
  exact h.hold t ht
theorem Tch.flush (h : Tch m T h0) : Tch m.flush.2 T h0 := by
  have hok := DM.flush_ok h.ok
  unfold DM.flush at hok ⊢
  split
  · exact h
  · split
    · exact h.of_eq ⟨h.ok.meant, h.ok.lost, h.ok.rests, h.ok.means, h.ok.waits, h.ok.power⟩ rfl rfl rfl rfl rfl
    · rename_i h1 h2
      rw [if_neg h1, if_neg h2] at hok
      have h' : Tch ({ m with power := lessP m.power } : DM) T h0 := h.of_eq ⟨h.ok.meant, h.ok.lost, h.ok.rests, h.ok.means, h.ok.waits, lessP_le h.ok.power⟩ rfl rfl rfl rfl rfl
      obtain ⟨w1, w2, w3, w4⟩ := DM.comes_waits m.waits ({ m with power := lessP m.power } : DM)
      refine ⟨hok, ?_, w2.trans h.down, fun x hx => (by cases hx), h'.comes fun x hx => hx⟩
      show (DM.comes _ _).size = 156
      rw [DM.comes_size]
      exact h.size
theorem Tch.putC (h : Tch m T h0) {s : Nat} (hs : T s) {L : List Nat} (hb : ∀ x ∈ L, x < 256) : Tch (m.putC (s : Int) L).2 T h0 := by
  unfold DM.putC
  split
  · exact h.write hs hb
  · exact (h.write hs hb).flush
theorem Tch.put2C (h : Tch m T h0) {s : Nat} (hs : T s) (hs1 : T (s + 1)) {L : List Nat} (hb : ∀ x ∈ L, x < 256) : Tch (m.put2C (s : Int) L).2 T h0 := by
  have h1 := h.write hs (L := L.take 64) fun x hx => hb x (List.mem_of_mem_take hx)
  have h2 := h1.write hs1 (L := L.drop 64) fun x hx => hb x (List.mem_of_mem_drop hx)
  rw [show ((s + 1 : Nat) : Int) = (s : Int) + 1 from by omega] at h2
  unfold DM.put2C
  split
  · exact h1
  · split
    · exact h2
    · exact h2.flush
def putT (q p : Nat) (t : Nat) : Prop := t = sR q ∨ t = sF p ∨ t = sF p + 1
theorem Tch.putK {q p : Nat} (hq : q < 24) (hp : p < 48) {r inc i k x y : Int} {e : Ent} (hpk : 2 * (q : Int) + k = (p : Int)) (h : Tch m (putT q p) h0) (hb : ∀ z ∈ frmW r inc i (p : Int) x y e, z < 256) (hc : ∀ z ∈ recW r inc i (q : Int) x y k, z < 256) :
    Tch (m.putK r inc i (q : Int) k x y e).2 (putT q p) h0 := by
  unfold DM.putK
  rw [hpk, first4 hp, first3 hq]
  have h1 := h.put2C (s := sF p) (.inr (.inl rfl)) (.inr (.inr rfl)) hb
  split
  · exact h1
  · exact h1.putC (s := sR q) (.inl rfl) hc
end
theorem Tch.again {m : DM} {T : Nat → Prop} {h0 : Nat → List Nat} (h : Tch m T h0) (k : List Bool) : (m.crash k).1 = 0 ∧ (m.crash k).2.start.1 = 0 ∧ CD (m.crash k).2.start.2 (-1) ∧ ∀ t, ¬ T t → (m.crash k).2.start.2.hold t = h0 t := by
  obtain ⟨a, b, c, d⟩ := CB.again (m := m) (w := m.waits) ⟨h.ok, h.size, rfl, h.down⟩ k
  refine ⟨a, b, c, fun t ht => ?_⟩
  have hn : lastW (kept m.waits k) t = none := lastW_none fun x hx he => ht (by rw [← he]; exact h.waits x (kept_mem hx))
  rw [d t, hn]
  exact h.hold t ht
theorem NInv.flush {m : DM} (h : NInv m) : NInv m.flush.2 := by
  have := h.act 0 0 0 (bytes := []) (fun _ hx => by cases hx) [] (by omega)
  exact this
section
variable {m : DM} {s : Nat} {L : List Nat}
theorem CD.put2C (h : CD m (-1)) (hs : s + 1 < 156) (h1 : Sect (L.take 64)) (h2 : Sect (L.drop 64)) : ∃ m', m.put2C (s : Int) L = (0, m') ∧ CD m' (-1) ∧ (NInv m → NInv m') ∧ ∀ t, m'.hold t = if t = s + 1 then L.drop 64 else if t = s then L.take 64 else m.hold t := by
  have hw1 : m.write (s : Int) (L.take 64) = (0, { m with power := -1, waits := [(s, L.take 64)] }) := by
    rw [h.write1 (by omega) (by omega) h1]; rfl
  obtain ⟨m1, hm1⟩ : ∃ m1 : DM, m1 = { m with power := -1, waits := [(s, L.take 64)] } := ⟨_, rfl⟩
  rw [← hm1] at hw1
  have hu : m1.up = true := by rw [hm1]; unfold DM.up; show (!(m.down || m.dead)) = true; rw [h.b.down, h.dead]; rfl
  have hh : m1.has ((s : Int) + 1) = true := DM.has_iff.2 ⟨by omega, by rw [hm1]; show (s : Int) + 1 < (m.size : Int); rw [h.b.size]; omega⟩
  have hw2 : m1.write ((s : Int) + 1) (L.drop 64) = (0, { m with power := -1, waits := [(s, L.take 64), (s + 1, L.drop 64)] }) := by
    unfold DM.write
    rw [if_neg (by rw [hu]; simp), if_neg (by rw [hh, h2.1]; simp), if_neg (by rw [hm1]; show ¬ (-1 : Int) = 0; omega), hm1]
    show _ = _
    rw [show ((s : Int) + 1).toNat = s + 1 from by omega]
    rfl
  obtain ⟨m2, hm2⟩ : ∃ m2 : DM, m2 = { m with power := -1, waits := [(s, L.take 64), (s + 1, L.drop 64)] } := ⟨_, rfl⟩
  rw [← hm2] at hw2
  have hok2 : m2.Ok := by
    have := DM.write_ok (DM.write_ok h.b.ok (s : Int) h1.2) ((s : Int) + 1) h2.2
    rw [hw1, hw2] at this
    exact this
  have hu2 : m2.up = true := by rw [hm2]; unfold DM.up; show (!(m.down || m.dead)) = true; rw [h.b.down, h.dead]; rfl
  have hf : m2.flush = (0, { (m2.comes m2.waits) with waits := [] }) := by
    unfold DM.flush
    rw [if_neg (by rw [hu2]; simp), if_neg (by rw [hm2]; show ¬ (-1 : Int) = 0; omega)]
    rw [hm2]
    rfl
  obtain ⟨w1, w2, w3, w4⟩ := DM.comes_waits m2.waits m2
  refine ⟨{ (m2.comes m2.waits) with waits := [] }, ?_, ⟨⟨?_, ?_, rfl, ?_⟩, ?_, ?_⟩, fun hn => ?_, fun t => ?_⟩
  · unfold DM.put2C
    rw [hw1, if_neg (by simp)]
    show (if (m1.write ((s : Int) + 1) (L.drop 64)).1 ≠ 0 then _ else _) = _
    rw [hw2, if_neg (by simp)]
    exact hf
  · have := DM.flush_ok hok2; rw [hf] at this; exact this
  · show (m2.comes m2.waits).size = 156
    rw [DM.comes_size, hm2]
    exact h.b.size
  · exact w2.trans (by rw [hm2]; exact h.b.down)
  · exact w3.trans (by rw [hm2]; exact h.dead)
  · exact w4.trans (by rw [hm2])
  · have := ((hn.write (s : Int) h1.2).write ((s : Int) + 1) h2.2).flush
    rw [hw1] at this
    dsimp only at this
    rw [hw2] at this
    dsimp only at this
    rw [hf] at this
    exact this
  · show (m2.comes m2.waits).hold t = _
    rw [hold_comes hok2 fun x hx => (hok2.waits x hx).1, hm2]
    show (lastW ([(s, L.take 64)] ++ [(s + 1, L.drop 64)]) t).getD (m.hold t) = _
    rw [lastW_snoc]
    dsimp only
    by_cases ht : t = s + 1
    · rw [if_pos ht.symm, if_pos ht]; rfl
    · rw [if_neg (fun e => ht e.symm), if_neg ht]
      show (lastW ([] ++ [(s, L.take 64)]) t).getD (m.hold t) = _
      rw [lastW_snoc]
      dsimp only
      by_cases hts : t = s
      · rw [if_pos hts.symm, if_pos hts]; rfl
      · rw [if_neg (fun e => hts e.symm), if_neg hts]; rfl
theorem NInv.putC (h : NInv m) (hb : ∀ x ∈ L, x < 256) (t : Int) : NInv (m.putC t L).2 := by
  unfold DM.putC
  split
  · exact h.write t hb
  · exact (h.write t hb).flush
theorem CD.putK {q p : Nat} (hq : q < 24) (hp : p < 48) {r inc i k x y : Int} {e : Ent} (hpk : 2 * (q : Int) + k = (p : Int)) (h : CD m (-1)) (h1 : Sect ((frmW r inc i (p : Int) x y e).take 64)) (h2 : Sect ((frmW r inc i (p : Int) x y e).drop 64)) (h3 : Sect (recW r inc i (q : Int) x y k)) :
    ∃ m', m.putK r inc i (q : Int) k x y e = (0, m') ∧ CD m' (-1) ∧ (NInv m → NInv m') ∧ ∀ t, m'.hold t = if t = sR q then recW r inc i (q : Int) x y k else if t = sF p + 1 then (frmW r inc i (p : Int) x y e).drop 64 else if t = sF p then (frmW r inc i (p : Int) x y e).take 64 else m.hold t := by
  obtain ⟨m1, e1, c1, n1, g1⟩ := h.put2C (s := sF p) (sF_lt hp) h1 h2
  obtain ⟨m2, e2, c2, g2⟩ := c1.put2 (s := sR q) (.inl rfl) (sR_lt hq) h3
  refine ⟨m2, ?_, c2, fun hn => ?_, fun t => ?_⟩
  · unfold DM.putK
    rw [hpk, first4 hp, first3 hq, e1, if_neg (by simp)]
    exact e2
  · have := (n1 hn).putC h3.2 (sR q : Int)
    rw [e2] at this
    exact this
  · rw [g2 t, g1 t]
end
section
variable {m : DM} {pw : Int}
theorem CD.recM (h : CD m pw) {q : Nat} (hq : q < 24) (r : Int) : m.recM r (q : Int) = recQ r (q : Int) (m.hold (sR q)) := by
  unfold DM.recM DM.cb
  rw [first3 hq, h.read (sR_lt hq)]
theorem CD.copM (h : CD m pw) {p : Nat} (hp : p < 48) (r : Int) : m.copM r (p : Int) = copQ r (p : Int) (pair2 (m.hold (sF p)) (m.hold (sF p + 1))) := by
  unfold DM.copM DM.fb
  rw [first4 hp, h.read (by have := sF_lt hp; omega), show ((sF p : Nat) : Int) + 1 = ((sF p + 1 : Nat) : Int) from by omega, h.read (sF_lt hp)]
theorem slot_same {m m' : DM} {pw pw' : Int} (h : CD m pw) (h' : CD m' pw') {q : Nat} (hq : q < 24) (r : Int) (ht : ∀ t, (t = sR q ∨ t = sF (2 * q) ∨ t = sF (2 * q) + 1 ∨ t = sF (2 * q + 1) ∨ t = sF (2 * q + 1) + 1) → m'.hold t = m.hold t) :
    m'.recM r (q : Int) = m.recM r (q : Int) ∧ m'.copM r ((2 * q : Nat) : Int) = m.copM r ((2 * q : Nat) : Int) ∧ m'.copM r ((2 * q + 1 : Nat) : Int) = m.copM r ((2 * q + 1 : Nat) : Int) := by
  refine ⟨?_, ?_, ?_⟩
  · rw [h.recM hq, h'.recM hq, ht _ (.inl rfl)]
  · rw [h.copM (by omega), h'.copM (by omega), ht _ (.inr (.inl rfl)), ht _ (.inr (.inr (.inl rfl)))]
  · rw [h.copM (by omega), h'.copM (by omega), ht _ (.inr (.inr (.inr (.inl rfl)))), ht _ (.inr (.inr (.inr (.inr rfl))))]
theorem putT_far {q q' p : Nat} (hq : q < 24) (hq' : q' < 24) (hne : q' ≠ q) (hp : p = 2 * q ∨ p = 2 * q + 1) {t : Nat} (ht : t = sR q' ∨ t = sF (2 * q') ∨ t = sF (2 * q') + 1 ∨ t = sF (2 * q' + 1) ∨ t = sF (2 * q' + 1) + 1) : ¬ putT q p t := by
  unfold putT sR sF at *
  omega
end
end
section
open Go
def LowF (i x y : Int) (c : CopL) : Prop := c = {} ∨ (c.st = 1 ∧ c.ix = i ∧ gtL x y c.bx c.yb) ∨ (c.st = 1 ∧ c.ix < i)
def SlH (j : Int) (o : Option (Int × Int × Ent)) (p : Rec) (f0 f1 : CopL) : Prop :=
  match o with
  | none => p = {} ∧ f0 = {} ∧ f1 = {}
  | some (x, y, e) => ∃ k : Int, (k = 0 ∨ k = 1) ∧ p = { st := 1, ix := j, bx := x, yb := y, wh := k } ∧ cop f0 f1 k = { st := 1, ix := j, bx := x, yb := y, e := e } ∧ LowF j x y (cop f0 f1 (1 - k))
theorem cop_zero (f0 f1 : CopL) : cop f0 f1 0 = f0 := rfl
theorem cop_one (f0 f1 : CopL) : cop f0 f1 1 = f1 := rfl
theorem gt_irr (x y : Int) : ¬ gtL x y x y := by unfold gtL; omega
theorem low_cand {i x y : Int} {k : Int} {c : CopL} (h : LowF i x y c) : ¬ candL { st := 1, ix := i, bx := x, yb := y, wh := k } c i := by
  rintro ⟨⟨h1, h2⟩, h3⟩
  rcases h with rfl | ⟨_, _, h⟩ | ⟨_, h⟩
  · cases h1
  · exact h3 h
  · omega
theorem low_st {i x y : Int} {c : CopL} (h : LowF i x y c) : c.st ≤ 1 ∧ (c.st = 1 → c.ix ≤ i) := by
  rcases h with rfl | ⟨h1, h2, _⟩ | ⟨h1, h2⟩
  · exact ⟨by simp, fun h => by cases h⟩
  · exact ⟨by omega, fun _ => by omega⟩
  · exact ⟨by omega, fun _ => by omega⟩
theorem pickW_tf {a b h : Prop} [Decidable a] [Decidable b] [Decidable h] (ha : a) (hb : ¬ b) : pickW a b h = 0 := by unfold pickW; rw [if_neg (fun x => hb x.2), if_pos ha]
theorem pickW_ft {a b h : Prop} [Decidable a] [Decidable b] [Decidable h] (ha : ¬ a) (hb : b) : pickW a b h = 1 := by unfold pickW; rw [if_neg (fun x => ha x.1), if_neg ha, if_pos hb]
theorem pickW_ff {a b h : Prop} [Decidable a] [Decidable b] [Decidable h] (ha : ¬ a) (hb : ¬ b) : pickW a b h = -1 := by unfold pickW; rw [if_neg (fun x => ha x.1), if_neg ha, if_neg hb]
theorem where_cand0 {p : Rec} {f0 f1 : CopL} {i : Int} (hp : p.of i) (h0 : candL p f0 i) (h1 : ¬ candL p f1 i) : whereL p f0 f1 i = 0 := by
  unfold whereL
  rw [if_pos hp]
  split
  · exact pickW_tf h0 h1
  · exact pickW_tf h0 h1
theorem where_cand1 {p : Rec} {f0 f1 : CopL} {i : Int} (hp : p.of i) (h0 : ¬ candL p f0 i) (h1 : candL p f1 i) : whereL p f0 f1 i = 1 := by
  unfold whereL
  rw [if_pos hp]
  split
  · exact pickW_ft h0 h1
  · exact pickW_ft h0 h1
theorem where_candN {p : Rec} {f0 f1 : CopL} {i : Int} (hp : p.of i) (h0 : ¬ candL p f0 i) (h1 : ¬ candL p f1 i) : whereL p f0 f1 i = -1 := by
  unfold whereL
  rw [if_pos hp]
  split
  · exact pickW_ff h0 h1
  · exact pickW_ff h0 h1
theorem new_cand {i x y k : Int} {e : Ent} {c : CopL} (h : c = { st := 1, ix := i, bx := x, yb := y, e := e }) : candL { st := 1, ix := i, bx := x, yb := y, wh := k } c i := by
  subst h
  exact ⟨⟨rfl, rfl⟩, gt_irr x y⟩
theorem SlH.where_ {i x y : Int} {e : Ent} {p : Rec} {f0 f1 : CopL} (h : SlH i (some (x, y, e)) p f0 f1) : ∃ k : Int, (k = 0 ∨ k = 1) ∧ whereL p f0 f1 i = k ∧ cop f0 f1 k = { st := 1, ix := i, bx := x, yb := y, e := e } := by
  obtain ⟨k, hk, rfl, hc, hl⟩ := h
  refine ⟨k, hk, ?_, hc⟩
  rcases hk with rfl | rfl
  · exact where_cand0 ⟨rfl, rfl⟩ (new_cand hc) (low_cand hl)
  · exact where_cand1 ⟨rfl, rfl⟩ (low_cand hl) (new_cand hc)
theorem SlH.told {i x y : Int} {e : Ent} {p : Rec} {f0 f1 : CopL} (h : SlH i (some (x, y, e)) p f0 f1) : classL p f0 f1 i = 3 ∧ repX p f0 f1 i = x ∧ repY p f0 f1 i = y ∧ repE p f0 f1 i = e := by
  obtain ⟨k, hk, hw, hc⟩ := h.where_
  have h0 : 0 ≤ whereL p f0 f1 i := by omega
  refine ⟨classL_three.2 h0, ?_, ?_, ?_⟩
  · unfold repX; rw [if_pos h0, hw, hc]
  · unfold repY; rw [if_pos h0, hw, hc]
  · unfold repE; rw [if_pos h0, hw, hc]
theorem SlH.most {j : Int} {o : Option (Int × Int × Ent)} {p : Rec} {f0 f1 : CopL} (h : SlH j o p f0 f1) : p.st ≤ 1 ∧ f0.st ≤ 1 ∧ f1.st ≤ 1 ∧ (p.st = 1 → p.ix ≤ j) ∧ (f0.st = 1 → f0.ix ≤ j) ∧ (f1.st = 1 → f1.ix ≤ j) ∧ (p.wh = 0 ∨ p.wh = 1) := by
  match o, h with
  | none, h =>
    obtain ⟨rfl, rfl, rfl⟩ := h
    exact ⟨by simp, by simp, by simp, (fun h => by cases h), (fun h => by cases h), (fun h => by cases h), .inl rfl⟩
  | some (x, y, e), h =>
    obtain ⟨k, hk, rfl, hc, hl⟩ := h
    have hl := low_st hl
    have h1 : (cop f0 f1 k).st ≤ 1 ∧ ((cop f0 f1 k).st = 1 → (cop f0 f1 k).ix ≤ j) := by rw [hc]; exact ⟨by simp, fun _ => by simp⟩
    rcases hk with rfl | rfl
    · exact ⟨by simp, h1.1, hl.1, fun _ => by simp, h1.2, hl.2, .inl rfl⟩
    · exact ⟨by simp, hl.1, h1.1, fun _ => by simp, hl.2, h1.2, .inr rfl⟩
theorem where_newer {i : Int} {p : Rec} {f0 f1 : CopL} (h0 : p.st ≤ 1) (hp : p.st = 1 → p.ix < i) (h1 : f0.st = 1 → f0.ix < i) (h2 : f1.st = 1 → f1.ix < i) : whereL p f0 f1 i = -1 ∧ ¬ p.of i ∧ ¬ beyL p f0 f1 i := by
  have hn : ¬ p.of i := fun h => by have := hp h.1; have := h.2; omega
  have hb : ¬ beyL p f0 f1 i := by
    rintro (⟨a, b⟩ | ⟨a, b⟩ | ⟨a, b⟩)
    · have := hp a; omega
    · have := h1 a; omega
    · have := h2 a; omega
  refine ⟨?_, hn, hb⟩
  unfold whereL
  rw [if_neg hn, if_neg (by rintro (h | h); exact hb h; have := h.1; omega)]
  exact pickW_ff (fun h => by have := h1 h.1; have := h.2; omega) (fun h => by have := h2 h.1; have := h.2; omega)
theorem absent_newer {i : Int} {p : Rec} {f0 f1 : CopL} (h0 : p.st ≤ 1) (hp : p.st = 1 → p.ix < i) (h1 : f0.st = 1 → f0.ix < i) (h2 : f1.st = 1 → f1.ix < i) (k1 : f0.st ≤ 1) (k2 : f1.st ≤ 1) : classL p f0 f1 i = 0 := by
  obtain ⟨a, b, c⟩ := where_newer h0 hp h1 h2
  unfold classL
  rw [if_neg (by omega), if_neg b, if_neg (by rintro (h | h); exact c h; have := h.1; omega), if_neg (by unfold badL; omega)]
theorem SlH.blank {i j : Int} {p : Rec} {f0 f1 : CopL} (h : SlH j none p f0 f1) : classL p f0 f1 i = 0 := by
  obtain ⟨rfl, rfl, rfl⟩ := h
  exact absent_newer (by simp) (fun x => by cases x) (fun x => by cases x) (fun x => by cases x) (by simp) (by simp)
theorem SlH.put {i j x y : Int} {e : Ent} {o : Option (Int × Int × Ent)} {p : Rec} {f0 f1 : CopL} (h : SlH j o p f0 f1) (hc : o = none ∨ j < i ∨ (j = i ∧ ∀ a b c, o = some (a, b, c) → gtL x y a b)) :
    SlH i (some (x, y, e)) { st := 1, ix := i, bx := x, yb := y, wh := nextL p f0 f1 i } (if nextL p f0 f1 i = 0 then { st := 1, ix := i, bx := x, yb := y, e := e } else f0) (if nextL p f0 f1 i = 1 then { st := 1, ix := i, bx := x, yb := y, e := e } else f1) := by
  have hn := (nextL_two p f0 f1 i).1
  refine ⟨nextL p f0 f1 i, hn, rfl, ?_, ?_⟩
  · rcases hn with hn | hn <;> rw [hn] <;> simp [cop]
  · -- the frame that stays
    have stay : ∀ c, (c = f0 ∧ nextL p f0 f1 i = 1) ∨ (c = f1 ∧ nextL p f0 f1 i = 0) → LowF i x y c := by
      intro c hcc
      match o, h, hc with
      | none, h, _ =>
        obtain ⟨rfl, rfl, rfl⟩ := h
        rcases hcc with ⟨rfl, _⟩ | ⟨rfl, _⟩ <;> exact .inl rfl
      | some (a, b, d), h, hc =>
        by_cases hij : j < i
        · obtain ⟨_, u, v, _, q, r, _⟩ := h.most
          have hst : c.st ≤ 1 ∧ (c.st = 1 → c.ix < i) := by
            rcases hcc with ⟨rfl, _⟩ | ⟨rfl, _⟩
            · exact ⟨u, fun x => by have := q x; omega⟩
            · exact ⟨v, fun x => by have := r x; omega⟩
          by_cases h1 : c.st = 1
          · exact .inr (.inr ⟨h1, hst.2 h1⟩)
          · -- a frame of state 0 is blank
            obtain ⟨k, hk, _, hck, hl⟩ := h
            have : c = cop f0 f1 k ∨ c = cop f0 f1 (1 - k) := by
              rcases hk with rfl | rfl <;> rcases hcc with ⟨rfl, _⟩ | ⟨rfl, _⟩ <;> simp [cop]
            rcases this with hh | hh
            · rw [hh, hck] at h1; exact absurd rfl h1
            · rw [← hh] at hl
              rcases hl with hl | ⟨hl, _⟩ | ⟨hl, _⟩
              · exact .inl hl
              · exact absurd hl h1
              · exact absurd hl h1
        · have hji : j = i ∧ gtL x y a b := by
            rcases hc with hc | hc | ⟨hc, hg⟩
            · cases hc
            · exact absurd hc hij
            · exact ⟨hc, hg a b d rfl⟩
          obtain ⟨rfl, hg⟩ := hji
          obtain ⟨k, hk, hw, hck⟩ := h.where_
          have hnk : nextL p f0 f1 j = 1 - k := by unfold nextL; rw [hw, if_pos (by omega)]
          have : c = cop f0 f1 k := by
            rcases hk with rfl | rfl <;> rcases hcc with ⟨rfl, hq⟩ | ⟨rfl, hq⟩ <;> first | rfl | omega
          rw [this, hck]
          exact .inr (.inl ⟨rfl, rfl, hg⟩)
    rcases hn with hz | hz
    · have : cop (if nextL p f0 f1 i = 0 then { st := 1, ix := i, bx := x, yb := y, e := e } else f0) (if nextL p f0 f1 i = 1 then { st := 1, ix := i, bx := x, yb := y, e := e } else f1) (1 - nextL p f0 f1 i) = f1 := by rw [hz]; simp [cop]
      rw [this]
      exact stay f1 (.inr ⟨rfl, hz⟩)
    · have : cop (if nextL p f0 f1 i = 0 then { st := 1, ix := i, bx := x, yb := y, e := e } else f0) (if nextL p f0 f1 i = 1 then { st := 1, ix := i, bx := x, yb := y, e := e } else f1) (1 - nextL p f0 f1 i) = f0 := by rw [hz]; simp [cop]
      rw [this]
      exact stay f0 (.inl ⟨rfl, hz⟩)
def HrtR (p p' : Rec) : Prop := p' = p ∨ p'.st = 2
def HrtC (c c' : CopL) : Prop := c' = c ∨ c'.st = 2
theorem hurt_none {i j : Int} {p p' : Rec} {f0 f0' f1 f1' : CopL} (h : SlH j none p f0 f1) (hp : HrtR p p') (h0 : HrtC f0 f0') (h1 : HrtC f1 f1') : classL p' f0' f1' i ≠ 3 := by
  obtain ⟨rfl, rfl, rfl⟩ := h
  have n0 : ¬ f0'.of i := fun h => by
    rcases h0 with rfl | h0
    · have := h.1; cases this
    · have := h.1; omega
  have n1 : ¬ f1'.of i := fun h => by
    rcases h1 with rfl | h1
    · have := h.1; cases this
    · have := h.1; omega
  intro h3
  have := classL_three.1 h3
  rcases whereL_of (p := p') (f0 := f0') (f1 := f1') (i := i) with e | ⟨_, e⟩ | ⟨_, e⟩
  · omega
  · exact n0 e
  · exact n1 e
theorem hurt_some {i x y : Int} {e : Ent} {p p' : Rec} {f0 f0' f1 f1' : CopL} (h : SlH i (some (x, y, e)) p f0 f1) (hp : HrtR p p') (h0 : HrtC f0 f0') (h1 : HrtC f1 f1') :
    (classL p' f0' f1' i = 3 ∧ repX p' f0' f1' i = x ∧ repY p' f0' f1' i = y ∧ repE p' f0' f1' i = e) ∨ (classL p' f0' f1' i = 2 ∧ ¬ (p' = p ∧ f0' = f0 ∧ f1' = f1)) := by
  by_cases hall : p' = p ∧ f0' = f0 ∧ f1' = f1
  · obtain ⟨rfl, rfl, rfl⟩ := hall
    exact .inl h.told
  by_cases hb : badL f0' f1'
  · -- a frame is bad
    rcases hp with rfl | hp
    · obtain ⟨k, hk, rfl, hc, hl⟩ := h
      have hof : Rec.of { st := 1, ix := i, bx := x, yb := y, wh := k } i := ⟨rfl, rfl⟩
      have nb : ∀ c : CopL, c.st = 2 → ¬ candL { st := 1, ix := i, bx := x, yb := y, wh := k } c i := fun c hc h => by have := h.1.1; omega
      have told : ∀ k', (k' = 0 ∨ k' = 1) → whereL { st := 1, ix := i, bx := x, yb := y, wh := k } f0' f1' i = k' → cop f0' f1' k' = { st := 1, ix := i, bx := x, yb := y, e := e } → classL { st := 1, ix := i, bx := x, yb := y, wh := k } f0' f1' i = 3 ∧ repX { st := 1, ix := i, bx := x, yb := y, wh := k } f0' f1' i = x ∧ repY { st := 1, ix := i, bx := x, yb := y, wh := k } f0' f1' i = y ∧ repE { st := 1, ix := i, bx := x, yb := y, wh := k } f0' f1' i = e := fun k' hk' hw hcc => by
        have hz : 0 ≤ whereL { st := 1, ix := i, bx := x, yb := y, wh := k } f0' f1' i := by omega
        exact ⟨classL_three.2 hz, by unfold repX; rw [if_pos hz, hw, hcc], by unfold repY; rw [if_pos hz, hw, hcc], by unfold repE; rw [if_pos hz, hw, hcc]⟩
      have lost : whereL { st := 1, ix := i, bx := x, yb := y, wh := k } f0' f1' i = -1 → classL { st := 1, ix := i, bx := x, yb := y, wh := k } f0' f1' i = 2 := fun hw => by unfold classL; rw [if_neg (by omega), if_pos hof]
      rcases hk with rfl | rfl
      · have hl1 : ¬ candL { st := 1, ix := i, bx := x, yb := y, wh := 0 } f1' i := by
          rcases h1 with rfl | h1
          · exact low_cand hl
          · exact nb _ h1
        rcases h0 with rfl | h0
        · exact .inl (told 0 (.inl rfl) (where_cand0 hof (new_cand hc) hl1) hc)
        · exact .inr ⟨lost (where_candN hof (nb _ h0) hl1), hall⟩
      · have hl0 : ¬ candL { st := 1, ix := i, bx := x, yb := y, wh := 1 } f0' i := by
          rcases h0 with rfl | h0
          · exact low_cand hl
          · exact nb _ h0
        rcases h1 with rfl | h1
        · exact .inl (told 1 (.inr rfl) (where_cand1 hof hl0 (new_cand hc)) hc)
        · exact .inr ⟨lost (where_candN hof hl0 (nb _ h1)), hall⟩
    · refine .inr ⟨?_, hall⟩
      have hno : ¬ p'.of i := fun h => by have := h.1; omega
      have hw : whereL p' f0' f1' i = -1 := by unfold whereL; rw [if_neg hno, if_pos (.inr ⟨hp, hb⟩)]
      unfold classL
      rw [if_neg (by omega), if_neg hno, if_pos (.inr ⟨hp, hb⟩)]
  · -- the frames are as they were, the record is bad
    have e0 : f0' = f0 := by rcases h0 with h0 | h0; exact h0; exact absurd (.inl h0) hb
    have e1 : f1' = f1 := by rcases h1 with h1 | h1; exact h1; exact absurd (.inr h1) hb
    subst e0 e1
    have hp2 : p'.st = 2 := by rcases hp with hp | hp; exact absurd ⟨hp, rfl, rfl⟩ hall; exact hp
    obtain ⟨k, hk, rfl, hc, hl⟩ := h
    have hno : ¬ p'.of i := fun h => by have := h.1; omega
    have hbe : ¬ beyL p' f0' f1' i := by
      have hls := low_st hl
      have hcs : (cop f0' f1' k).ix = i := by rw [hc]
      rintro (⟨a, b⟩ | ⟨a, b⟩ | ⟨a, b⟩)
      · omega
      · rcases hk with rfl | rfl
        · rw [cop_zero] at hcs; omega
        · have := hls.2 a; rw [show cop f0' f1' (1 - 1) = f0' from rfl] at this; omega
      · rcases hk with rfl | rfl
        · have := hls.2 a; rw [show cop f0' f1' (1 - 0) = f1' from rfl] at this; omega
        · rw [cop_one] at hcs; omega
    have hbf : ¬ (beyL p' f0' f1' i ∨ (p'.st = 2 ∧ badL f0' f1')) := by
      rintro (h | h)
      · exact hbe h
      · exact hb h.2
    left
    have hw : whereL p' f0' f1' i = k := by
      unfold whereL
      rw [if_neg hno, if_neg hbf]
      rcases hk with rfl | rfl
      · have h0 : f0'.of i := by have : cop f0' f1' 0 = f0' := rfl; rw [← this, hc]; exact ⟨rfl, rfl⟩
        have hx : f0'.bx = x ∧ f0'.yb = y := by have : cop f0' f1' 0 = f0' := rfl; rw [← this, hc]; exact ⟨rfl, rfl⟩
        rw [show cop f0' f1' (1 - 0) = f1' from rfl] at hl
        by_cases h1 : f1'.of i
        · have hg : gtL x y f1'.bx f1'.yb := by
            rcases hl with hl | hl | hl
            · rw [hl] at h1; have := h1.1; cases this
            · exact hl.2.2
            · have := h1.2; omega
          unfold pickW
          rw [if_pos ⟨h0, h1⟩, if_neg (by rw [hx.1, hx.2]; unfold gtL at hg ⊢; omega)]
        · exact pickW_tf h0 h1
      · have h1 : f1'.of i := by have : cop f0' f1' 1 = f1' := rfl; rw [← this, hc]; exact ⟨rfl, rfl⟩
        have hx : f1'.bx = x ∧ f1'.yb = y := by have : cop f0' f1' 1 = f1' := rfl; rw [← this, hc]; exact ⟨rfl, rfl⟩
        rw [show cop f0' f1' (1 - 1) = f0' from rfl] at hl
        by_cases h0 : f0'.of i
        · have hg : gtL x y f0'.bx f0'.yb := by
            rcases hl with hl | hl | hl
            · rw [hl] at h0; have := h0.1; cases this
            · exact hl.2.2
            · have := h0.2; omega
          unfold pickW
          rw [if_pos ⟨h0, h1⟩, if_pos (by rw [hx.1, hx.2]; exact hg)]
        · exact pickW_ft h0 h1
    have hz : 0 ≤ whereL p' f0' f1' i := by omega
    exact ⟨classL_three.2 hz, by unfold repX; rw [if_pos hz, hw, hc], by unfold repY; rw [if_pos hz, hw, hc], by unfold repE; rw [if_pos hz, hw, hc]⟩
end
end Go.Proofs.YtgcinagkbdcgiaaGreatDoor
