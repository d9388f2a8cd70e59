/-
  Plain facts on slots of a log: what was put last is told; what is hurt and seen to be is told to be corrupt.
  The contracts of slices.Collect over the iterator of hurt sectors, and of Hurt.
  The contract of Place.
  The contract of the program's Where.
  The contract of Seen.
  Plain facts on logs: puts on a disk, one behind the other; what faults leave of their slots, if all that is hurt is seen.
-/
import Derived.Test.YtmacebglfniegaaGreatDoorQ05
import Derived.Test.YtmacebglfniegaaGreatDoorQ11
import Derived.Test.YtmacebglfniegaaGreatDoorQ12
import Derived.Test.YtmacebglfniegaaGreatDoorQ13
import Derived.RangeFuncBox
import Derived.Maps.AppendAt
import Derived.Deep.RegionHeld3
import Derived.Deep.MidRow
import Derived.Deep.QuietTactic
namespace Go.Proofs.YtmacebglfniegaaGreatDoor
set_option maxRecDepth 100000
open Go

/-- A frame that is behind the one that was put last: blank, of a lesser index, or by a lesser ballot. -/
def LowF (i x y : Int) (c : CopL) : Prop := c = {} ∨ (c.st = 1 ∧ c.ix = i ∧ gtL x y c.bx c.yb) ∨ (c.st = 1 ∧ c.ix < i)
/-- What the places of a slot hold, of which nothing was put, or last of all an entry of index j. -/
def SlH (j : Int) (o : Option (Int × Int × Ent)) (p : Rec) (f0 f1 : CopL) : Prop :=
  match o with
  | none => p = {} ∧ f0 = {} ∧ f1 = {}
  | some (x, y, e) => ∃ k : Int, (k = 0 ∨ k = 1) ∧ p = { st := 1, ix := j, bx := x, yb := y, wh := k } ∧ cop f0 f1 k = { st := 1, ix := j, bx := x, yb := y, e := e } ∧ LowF j x y (cop f0 f1 (1 - k))
theorem cop_zero (f0 f1 : CopL) : cop f0 f1 0 = f0 := rfl
theorem cop_one (f0 f1 : CopL) : cop f0 f1 1 = f1 := rfl
theorem gt_irr (x y : Int) : ¬ gtL x y x y := by unfold gtL; omega
theorem low_cand {i x y : Int} {k : Int} {c : CopL} (h : LowF i x y c) : ¬ candL { st := 1, ix := i, bx := x, yb := y, wh := k } c i := by
  rintro ⟨⟨h1, h2⟩, h3⟩
  rcases h with rfl | ⟨_, _, h⟩ | ⟨_, h⟩
  · cases h1
  · exact h3 h
  · omega
theorem low_st {i x y : Int} {c : CopL} (h : LowF i x y c) : c.st ≤ 1 ∧ (c.st = 1 → c.ix ≤ i) := by
  rcases h with rfl | ⟨h1, h2, _⟩ | ⟨h1, h2⟩
  · exact ⟨by simp, fun h => by cases h⟩
  · exact ⟨by omega, fun _ => by omega⟩
  · exact ⟨by omega, fun _ => by omega⟩
theorem pickW_tf {a b h : Prop} [Decidable a] [Decidable b] [Decidable h] (ha : a) (hb : ¬ b) : pickW a b h = 0 := by unfold pickW; rw [if_neg (fun x => hb x.2), if_pos ha]
theorem pickW_ft {a b h : Prop} [Decidable a] [Decidable b] [Decidable h] (ha : ¬ a) (hb : b) : pickW a b h = 1 := by unfold pickW; rw [if_neg (fun x => ha x.1), if_neg ha, if_pos hb]
theorem pickW_ff {a b h : Prop} [Decidable a] [Decidable b] [Decidable h] (ha : ¬ a) (hb : ¬ b) : pickW a b h = -1 := by unfold pickW; rw [if_neg (fun x => ha x.1), if_neg ha, if_neg hb]
/-- By which frame a slot is intact whose record is there, and one of whose frames is a candidate. -/
theorem where_cand0 {p : Rec} {f0 f1 : CopL} {i : Int} (hp : p.of i) (h0 : candL p f0 i) (h1 : ¬ candL p f1 i) : whereL p f0 f1 i = 0 := by
  unfold whereL
  rw [if_pos hp]
  split
  · exact pickW_tf h0 h1
  · exact pickW_tf h0 h1
theorem where_cand1 {p : Rec} {f0 f1 : CopL} {i : Int} (hp : p.of i) (h0 : ¬ candL p f0 i) (h1 : candL p f1 i) : whereL p f0 f1 i = 1 := by
  unfold whereL
  rw [if_pos hp]
  split
  · exact pickW_ft h0 h1
  · exact pickW_ft h0 h1
theorem where_candN {p : Rec} {f0 f1 : CopL} {i : Int} (hp : p.of i) (h0 : ¬ candL p f0 i) (h1 : ¬ candL p f1 i) : whereL p f0 f1 i = -1 := by
  unfold whereL
  rw [if_pos hp]
  split
  · exact pickW_ff h0 h1
  · exact pickW_ff h0 h1
theorem new_cand {i x y k : Int} {e : Ent} {c : CopL} (h : c = { st := 1, ix := i, bx := x, yb := y, e := e }) : candL { st := 1, ix := i, bx := x, yb := y, wh := k } c i := by
  subst h
  exact ⟨⟨rfl, rfl⟩, gt_irr x y⟩
/-- The slot is intact with what was put last. -/
theorem SlH.where_ {i x y : Int} {e : Ent} {p : Rec} {f0 f1 : CopL} (h : SlH i (some (x, y, e)) p f0 f1) : ∃ k : Int, (k = 0 ∨ k = 1) ∧ whereL p f0 f1 i = k ∧ cop f0 f1 k = { st := 1, ix := i, bx := x, yb := y, e := e } := by
  obtain ⟨k, hk, rfl, hc, hl⟩ := h
  refine ⟨k, hk, ?_, hc⟩
  rcases hk with rfl | rfl
  · exact where_cand0 ⟨rfl, rfl⟩ (new_cand hc) (low_cand hl)
  · exact where_cand1 ⟨rfl, rfl⟩ (low_cand hl) (new_cand hc)
theorem SlH.told {i x y : Int} {e : Ent} {p : Rec} {f0 f1 : CopL} (h : SlH i (some (x, y, e)) p f0 f1) : classL p f0 f1 i = 3 ∧ repX p f0 f1 i = x ∧ repY p f0 f1 i = y ∧ repE p f0 f1 i = e := by
  obtain ⟨k, hk, hw, hc⟩ := h.where_
  have h0 : 0 ≤ whereL p f0 f1 i := by omega
  refine ⟨classL_three.2 h0, ?_, ?_, ?_⟩
  · unfold repX; rw [if_pos h0, hw, hc]
  · unfold repY; rw [if_pos h0, hw, hc]
  · unfold repE; rw [if_pos h0, hw, hc]
/-- What its states and indices are at most. -/
theorem SlH.most {j : Int} {o : Option (Int × Int × Ent)} {p : Rec} {f0 f1 : CopL} (h : SlH j o p f0 f1) : p.st ≤ 1 ∧ f0.st ≤ 1 ∧ f1.st ≤ 1 ∧ (p.st = 1 → p.ix ≤ j) ∧ (f0.st = 1 → f0.ix ≤ j) ∧ (f1.st = 1 → f1.ix ≤ j) ∧ (p.wh = 0 ∨ p.wh = 1) := by
  match o, h with
  | none, h =>
    obtain ⟨rfl, rfl, rfl⟩ := h
    exact ⟨by simp, by simp, by simp, (fun h => by cases h), (fun h => by cases h), (fun h => by cases h), .inl rfl⟩
  | some (x, y, e), h =>
    obtain ⟨k, hk, rfl, hc, hl⟩ := h
    have hl := low_st hl
    have h1 : (cop f0 f1 k).st ≤ 1 ∧ ((cop f0 f1 k).st = 1 → (cop f0 f1 k).ix ≤ j) := by rw [hc]; exact ⟨by simp, fun _ => by simp⟩
    rcases hk with rfl | rfl
    · exact ⟨by simp, h1.1, hl.1, fun _ => by simp, h1.2, hl.2, .inl rfl⟩
    · exact ⟨by simp, hl.1, h1.1, fun _ => by simp, hl.2, h1.2, .inr rfl⟩
/-- Of a greater index nothing is told. -/
theorem where_newer {i : Int} {p : Rec} {f0 f1 : CopL} (h0 : p.st ≤ 1) (hp : p.st = 1 → p.ix < i) (h1 : f0.st = 1 → f0.ix < i) (h2 : f1.st = 1 → f1.ix < i) : whereL p f0 f1 i = -1 ∧ ¬ p.of i ∧ ¬ beyL p f0 f1 i := by
  have hn : ¬ p.of i := fun h => by have := hp h.1; have := h.2; omega
  have hb : ¬ beyL p f0 f1 i := by
    rintro (⟨a, b⟩ | ⟨a, b⟩ | ⟨a, b⟩)
    · have := hp a; omega
    · have := h1 a; omega
    · have := h2 a; omega
  refine ⟨?_, hn, hb⟩
  unfold whereL
  rw [if_neg hn, if_neg (by rintro (h | h); exact hb h; have := h.1; omega)]
  exact pickW_ff (fun h => by have := h1 h.1; have := h.2; omega) (fun h => by have := h2 h.1; have := h.2; omega)
theorem absent_newer {i : Int} {p : Rec} {f0 f1 : CopL} (h0 : p.st ≤ 1) (hp : p.st = 1 → p.ix < i) (h1 : f0.st = 1 → f0.ix < i) (h2 : f1.st = 1 → f1.ix < i) (k1 : f0.st ≤ 1) (k2 : f1.st ≤ 1) : classL p f0 f1 i = 0 := by
  obtain ⟨a, b, c⟩ := where_newer h0 hp h1 h2
  unfold classL
  rw [if_neg (by omega), if_neg b, if_neg (by rintro (h | h); exact c h; have := h.1; omega), if_neg (by unfold badL; omega)]
theorem SlH.blank {i j : Int} {p : Rec} {f0 f1 : CopL} (h : SlH j none p f0 f1) : classL p f0 f1 i = 0 := by
  obtain ⟨rfl, rfl, rfl⟩ := h
  exact absent_newer (by simp) (fun x => by cases x) (fun x => by cases x) (fun x => by cases x) (by simp) (by simp)
/-- A put: of a greater index, or by a greater ballot, or the first one. -/
theorem SlH.put {i j x y : Int} {e : Ent} {o : Option (Int × Int × Ent)} {p : Rec} {f0 f1 : CopL} (h : SlH j o p f0 f1) (hc : o = none ∨ j < i ∨ (j = i ∧ ∀ a b c, o = some (a, b, c) → gtL x y a b)) :
    SlH i (some (x, y, e)) { st := 1, ix := i, bx := x, yb := y, wh := nextL p f0 f1 i } (if nextL p f0 f1 i = 0 then { st := 1, ix := i, bx := x, yb := y, e := e } else f0) (if nextL p f0 f1 i = 1 then { st := 1, ix := i, bx := x, yb := y, e := e } else f1) := by
  have hn := (nextL_two p f0 f1 i).1
  refine ⟨nextL p f0 f1 i, hn, rfl, ?_, ?_⟩
  · rcases hn with hn | hn <;> rw [hn] <;> simp [cop]
  · -- the frame that stays
    have stay : ∀ c, (c = f0 ∧ nextL p f0 f1 i = 1) ∨ (c = f1 ∧ nextL p f0 f1 i = 0) → LowF i x y c := by
      intro c hcc
      match o, h, hc with
      | none, h, _ =>
        obtain ⟨rfl, rfl, rfl⟩ := h
        rcases hcc with ⟨rfl, _⟩ | ⟨rfl, _⟩ <;> exact .inl rfl
      | some (a, b, d), h, hc =>
        by_cases hij : j < i
        · obtain ⟨_, u, v, _, q, r, _⟩ := h.most
          have hst : c.st ≤ 1 ∧ (c.st = 1 → c.ix < i) := by
            rcases hcc with ⟨rfl, _⟩ | ⟨rfl, _⟩
            · exact ⟨u, fun x => by have := q x; omega⟩
            · exact ⟨v, fun x => by have := r x; omega⟩
          by_cases h1 : c.st = 1
          · exact .inr (.inr ⟨h1, hst.2 h1⟩)
          · -- a frame of state 0 is blank
            obtain ⟨k, hk, _, hck, hl⟩ := h
            have : c = cop f0 f1 k ∨ c = cop f0 f1 (1 - k) := by
              rcases hk with rfl | rfl <;> rcases hcc with ⟨rfl, _⟩ | ⟨rfl, _⟩ <;> simp [cop]
            rcases this with hh | hh
            · rw [hh, hck] at h1; exact absurd rfl h1
            · rw [← hh] at hl
              rcases hl with hl | ⟨hl, _⟩ | ⟨hl, _⟩
              · exact .inl hl
              · exact absurd hl h1
              · exact absurd hl h1
        · have hji : j = i ∧ gtL x y a b := by
            rcases hc with hc | hc | ⟨hc, hg⟩
            · cases hc
            · exact absurd hc hij
            · exact ⟨hc, hg a b d rfl⟩
          obtain ⟨rfl, hg⟩ := hji
          obtain ⟨k, hk, hw, hck⟩ := h.where_
          have hnk : nextL p f0 f1 j = 1 - k := by unfold nextL; rw [hw, if_pos (by omega)]
          have : c = cop f0 f1 k := by
            rcases hk with rfl | rfl <;> rcases hcc with ⟨rfl, hq⟩ | ⟨rfl, hq⟩ <;> first | rfl | omega
          rw [this, hck]
          exact .inr (.inl ⟨rfl, rfl, hg⟩)
    rcases hn with hz | hz
    · have : cop (if nextL p f0 f1 i = 0 then { st := 1, ix := i, bx := x, yb := y, e := e } else f0) (if nextL p f0 f1 i = 1 then { st := 1, ix := i, bx := x, yb := y, e := e } else f1) (1 - nextL p f0 f1 i) = f1 := by rw [hz]; simp [cop]
      rw [this]
      exact stay f1 (.inr ⟨rfl, hz⟩)
    · have : cop (if nextL p f0 f1 i = 0 then { st := 1, ix := i, bx := x, yb := y, e := e } else f0) (if nextL p f0 f1 i = 1 then { st := 1, ix := i, bx := x, yb := y, e := e } else f1) (1 - nextL p f0 f1 i) = f0 := by rw [hz]; simp [cop]
      rw [this]
      exact stay f0 (.inl ⟨rfl, hz⟩)

/-! ### What is hurt is read as bad -/
def HrtR (p p' : Rec) : Prop := p' = p ∨ p'.st = 2
def HrtC (c c' : CopL) : Prop := c' = c ∨ c'.st = 2
theorem hurt_none {i j : Int} {p p' : Rec} {f0 f0' f1 f1' : CopL} (h : SlH j none p f0 f1) (hp : HrtR p p') (h0 : HrtC f0 f0') (h1 : HrtC f1 f1') : classL p' f0' f1' i ≠ 3 := by
  obtain ⟨rfl, rfl, rfl⟩ := h
  have n0 : ¬ f0'.of i := fun h => by
    rcases h0 with rfl | h0
    · have := h.1; cases this
    · have := h.1; omega
  have n1 : ¬ f1'.of i := fun h => by
    rcases h1 with rfl | h1
    · have := h.1; cases this
    · have := h.1; omega
  intro h3
  have := classL_three.1 h3
  rcases whereL_of (p := p') (f0 := f0') (f1 := f1') (i := i) with e | ⟨_, e⟩ | ⟨_, e⟩
  · omega
  · exact n0 e
  · exact n1 e
/-- Of what was put last: intact with that, or corrupt; and not corrupt if nothing is bad. -/
theorem hurt_some {i x y : Int} {e : Ent} {p p' : Rec} {f0 f0' f1 f1' : CopL} (h : SlH i (some (x, y, e)) p f0 f1) (hp : HrtR p p') (h0 : HrtC f0 f0') (h1 : HrtC f1 f1') :
    (classL p' f0' f1' i = 3 ∧ repX p' f0' f1' i = x ∧ repY p' f0' f1' i = y ∧ repE p' f0' f1' i = e) ∨ (classL p' f0' f1' i = 2 ∧ ¬ (p' = p ∧ f0' = f0 ∧ f1' = f1)) := by
  by_cases hall : p' = p ∧ f0' = f0 ∧ f1' = f1
  · obtain ⟨rfl, rfl, rfl⟩ := hall
    exact .inl h.told
  by_cases hb : badL f0' f1'
  · -- a frame is bad
    rcases hp with rfl | hp
    · obtain ⟨k, hk, rfl, hc, hl⟩ := h
      have hof : Rec.of { st := 1, ix := i, bx := x, yb := y, wh := k } i := ⟨rfl, rfl⟩
      have nb : ∀ c : CopL, c.st = 2 → ¬ candL { st := 1, ix := i, bx := x, yb := y, wh := k } c i := fun c hc h => by have := h.1.1; omega
      have told : ∀ k', (k' = 0 ∨ k' = 1) → whereL { st := 1, ix := i, bx := x, yb := y, wh := k } f0' f1' i = k' → cop f0' f1' k' = { st := 1, ix := i, bx := x, yb := y, e := e } → classL { st := 1, ix := i, bx := x, yb := y, wh := k } f0' f1' i = 3 ∧ repX { st := 1, ix := i, bx := x, yb := y, wh := k } f0' f1' i = x ∧ repY { st := 1, ix := i, bx := x, yb := y, wh := k } f0' f1' i = y ∧ repE { st := 1, ix := i, bx := x, yb := y, wh := k } f0' f1' i = e := fun k' hk' hw hcc => by
        have hz : 0 ≤ whereL { st := 1, ix := i, bx := x, yb := y, wh := k } f0' f1' i := by omega
        exact ⟨classL_three.2 hz, by unfold repX; rw [if_pos hz, hw, hcc], by unfold repY; rw [if_pos hz, hw, hcc], by unfold repE; rw [if_pos hz, hw, hcc]⟩
      have lost : whereL { st := 1, ix := i, bx := x, yb := y, wh := k } f0' f1' i = -1 → classL { st := 1, ix := i, bx := x, yb := y, wh := k } f0' f1' i = 2 := fun hw => by unfold classL; rw [if_neg (by omega), if_pos hof]
      rcases hk with rfl | rfl
      · have hl1 : ¬ candL { st := 1, ix := i, bx := x, yb := y, wh := 0 } f1' i := by
          rcases h1 with rfl | h1
          · exact low_cand hl
          · exact nb _ h1
        rcases h0 with rfl | h0
        · exact .inl (told 0 (.inl rfl) (where_cand0 hof (new_cand hc) hl1) hc)
        · exact .inr ⟨lost (where_candN hof (nb _ h0) hl1), hall⟩
      · have hl0 : ¬ candL { st := 1, ix := i, bx := x, yb := y, wh := 1 } f0' i := by
          rcases h0 with rfl | h0
          · exact low_cand hl
          · exact nb _ h0
        rcases h1 with rfl | h1
        · exact .inl (told 1 (.inr rfl) (where_cand1 hof hl0 (new_cand hc)) hc)
        · exact .inr ⟨lost (where_candN hof hl0 (nb _ h1)), hall⟩
    · refine .inr ⟨?_, hall⟩
      have hno : ¬ p'.of i := fun h => by have := h.1; omega
      have hw : whereL p' f0' f1' i = -1 := by unfold whereL; rw [if_neg hno, if_pos (.inr ⟨hp, hb⟩)]
      unfold classL
      rw [if_neg (by omega), if_neg hno, if_pos (.inr ⟨hp, hb⟩)]
  · -- the frames are as they were, the record is bad
    have e0 : f0' = f0 := by rcases h0 with h0 | h0; exact h0; exact absurd (.inl h0) hb
    have e1 : f1' = f1 := by rcases h1 with h1 | h1; exact h1; exact absurd (.inr h1) hb
    subst e0 e1
    have hp2 : p'.st = 2 := by rcases hp with hp | hp; exact absurd ⟨hp, rfl, rfl⟩ hall; exact hp
    obtain ⟨k, hk, rfl, hc, hl⟩ := h
    have hno : ¬ p'.of i := fun h => by have := h.1; omega
    have hbe : ¬ beyL p' f0' f1' i := by
      have hls := low_st hl
      have hcs : (cop f0' f1' k).ix = i := by rw [hc]
      rintro (⟨a, b⟩ | ⟨a, b⟩ | ⟨a, b⟩)
      · omega
      · rcases hk with rfl | rfl
        · rw [cop_zero] at hcs; omega
        · have := hls.2 a; rw [show cop f0' f1' (1 - 1) = f0' from rfl] at this; omega
      · rcases hk with rfl | rfl
        · have := hls.2 a; rw [show cop f0' f1' (1 - 0) = f1' from rfl] at this; omega
        · rw [cop_one] at hcs; omega
    have hbf : ¬ (beyL p' f0' f1' i ∨ (p'.st = 2 ∧ badL f0' f1')) := by
      rintro (h | h)
      · exact hbe h
      · exact hb h.2
    left
    have hw : whereL p' f0' f1' i = k := by
      unfold whereL
      rw [if_neg hno, if_neg hbf]
      rcases hk with rfl | rfl
      · have h0 : f0'.of i := by have : cop f0' f1' 0 = f0' := rfl; rw [← this, hc]; exact ⟨rfl, rfl⟩
        have hx : f0'.bx = x ∧ f0'.yb = y := by have : cop f0' f1' 0 = f0' := rfl; rw [← this, hc]; exact ⟨rfl, rfl⟩
        rw [show cop f0' f1' (1 - 0) = f1' from rfl] at hl
        by_cases h1 : f1'.of i
        · have hg : gtL x y f1'.bx f1'.yb := by
            rcases hl with hl | hl | hl
            · rw [hl] at h1; have := h1.1; cases this
            · exact hl.2.2
            · have := h1.2; omega
          unfold pickW
          rw [if_pos ⟨h0, h1⟩, if_neg (by rw [hx.1, hx.2]; unfold gtL at hg ⊢; omega)]
        · exact pickW_tf h0 h1
      · have h1 : f1'.of i := by have : cop f0' f1' 1 = f1' := rfl; rw [← this, hc]; exact ⟨rfl, rfl⟩
        have hx : f1'.bx = x ∧ f1'.yb = y := by have : cop f0' f1' 1 = f1' := rfl; rw [← this, hc]; exact ⟨rfl, rfl⟩
        rw [show cop f0' f1' (1 - 1) = f0' from rfl] at hl
        by_cases h0 : f0'.of i
        · have hg : gtL x y f0'.bx f0'.yb := by
            rcases hl with hl | hl | hl
            · rw [hl] at h0; have := h0.1; cases this
            · exact hl.2.2
            · have := h0.2; omega
          unfold pickW
          rw [if_pos ⟨h0, h1⟩, if_pos (by rw [hx.1, hx.2]; exact hg)]
        · exact pickW_ft h0 h1
    have hz : 0 ≤ whereL p' f0' f1' i := by omega
    exact ⟨classL_three.2 hz, by unfold repX; rw [if_pos hz, hw, hc], by unfold repY; rw [if_pos hz, hw, hc], by unfold repE; rw [if_pos hz, hw, hc]⟩
end Go.Proofs.YtmacebglfniegaaGreatDoor

namespace Go.Proofs.YtmacebglfniegaaGreatDoor
set_option maxRecDepth 100000
open Go Go.RowKit Go.Shelf
attribute [local go_sem] Oper.semAt_some

end Go.Proofs.YtmacebglfniegaaGreatDoor

namespace Go.Proofs.YtmacebglfniegaaGreatDoor
set_option maxRecDepth 100000
open Go Go.RowKit Go.Shelf
attribute [local go_sem] Oper.semAt_some

end Go.Proofs.YtmacebglfniegaaGreatDoor

namespace Go.Proofs.YtmacebglfniegaaGreatDoor
set_option maxRecDepth 100000
open Go Go.RowKit

/-- The cells of the table of regions. -/
def regCells : List Value := [.int .i64 0, .int .i64 0, .int .i64 2, .int .i64 1, .int .i64 2, .int .i64 1, .int .i64 24, .int .i64 1, .int .i64 48, .int .i64 2, .int .i64 16, .int .i64 2]
theorem LaidT.range {w : World} (h : LaidT w) : w.rangeAt 1 0 regCells := by
  intro j v hv
  have hj : j < 12 := (List.getElem?_eq_some_iff.1 hv).1
  have hj' : j = 0 ∨ j = 1 ∨ j = 2 ∨ j = 3 ∨ j = 4 ∨ j = 5 ∨ j = 6 ∨ j = 7 ∨ j = 8 ∨ j = 9 ∨ j = 10 ∨ j = 11 := by omega
  rw [Nat.zero_add, ← hv]
  rcases hj' with rfl | rfl | rfl | rfl | rfl | rfl | rfl | rfl | rfl | rfl | rfl | rfl
  · exact (h 0 (by omega)).1
  · exact (h 0 (by omega)).2
  · exact (h 1 (by omega)).1
  · exact (h 1 (by omega)).2
  · exact (h 2 (by omega)).1
  · exact (h 2 (by omega)).2
  · exact (h 3 (by omega)).1
  · exact (h 3 (by omega)).2
  · exact (h 4 (by omega)).1
  · exact (h 4 (by omega)).2
  · exact (h 5 (by omega)).1
  · exact (h 5 (by omega)).2
end Go.Proofs.YtmacebglfniegaaGreatDoor

namespace Go.Proofs.YtmacebglfniegaaGreatDoor
set_option maxRecDepth 100000
open Go Go.RowKit Go.Shelf
attribute [local go_sem] Oper.semAt_some

/-- Each hurt sector's place is detectable. -/
def DM.seenB (m : DM) (r : Int) : Bool := (hurtsIn m.hurt 0 156).all fun s => m.badB r (wReg s) (wPlc s)

end Go.Proofs.YtmacebglfniegaaGreatDoor

namespace Go.Proofs.YtmacebglfniegaaGreatDoor
set_option maxRecDepth 100000

/-- What a disk holds of a slot. -/
def SlD (m : DM) (r : Int) (q : Nat) (j : Int) (o : Option (Int × Int × Ent)) : Prop := SlH j o (m.recM r (q : Int)) (m.copM r ((2 * q : Nat) : Int)) (m.copM r ((2 * q + 1 : Nat) : Int))
/-- The sectors of a slot. -/
def slT (q t : Nat) : Prop := t = sR q ∨ t = sF (2 * q) ∨ t = sF (2 * q) + 1 ∨ t = sF (2 * q + 1) ∨ t = sF (2 * q + 1) + 1
theorem SlD.new {q : Nat} (hq : q < 24) (r j : Int) : SlD (DM.new 156) r q j none := ⟨new_recM hq r, new_copM (by omega) r, new_copM (by omega) r⟩
theorem SlD.of_same {m m' : DM} {pw pw' : Int} (h : CD m pw) (h' : CD m' pw') {q : Nat} (hq : q < 24) {r j : Int} {o : Option (Int × Int × Ent)} (ht : ∀ t, slT q t → m'.hold t = m.hold t) (hs : SlD m r q j o) : SlD m' r q j o := by
  obtain ⟨a, b, c⟩ := slot_same h h' hq r ht
  unfold SlD
  rw [a, b, c]
  exact hs
theorem mayW3 {r inc i : Int} {q : Nat} (hr : 0 ≤ r ∧ r ≤ 6) (hi : 0 ≤ i ∧ i ≤ 1099511627776) (hc : 1 ≤ inc ∧ inc ≤ 1099511627776) (hq : q < 24) : mayB r 3 (q : Int) i inc = true := by
  unfold mayB
  rw [decide_eq_true_iff]
  simp [plc]
  omega
theorem mayW4 {r inc i : Int} {p : Nat} (hr : 0 ≤ r ∧ r ≤ 6) (hi : 0 ≤ i ∧ i ≤ 1099511627776) (hc : 1 ≤ inc ∧ inc ≤ 1099511627776) (hp : p < 48) : mayB r 4 (p : Int) i inc = true := by
  unfold mayB
  rw [decide_eq_true_iff]
  simp [plc]
  omega
/-- Which frame is written, as a place. -/
theorem nextW_two (m : DM) (r i : Int) : m.nextW r i = 0 ∨ m.nextW r i = 1 := (nextL_two _ _ _ _).1
theorem nextW_of {m : DM} {r i : Int} {q : Nat} (hq : placeW i = (q : Int)) : m.nextW r i = nextL (m.recM r (q : Int)) (m.copM r ((2 * q : Nat) : Int)) (m.copM r ((2 * q + 1 : Nat) : Int)) i := by
  unfold DM.nextW
  rw [hq, show 2 * (q : Int) = ((2 * q : Nat) : Int) from by omega, show ((2 * q : Nat) : Int) + 1 = ((2 * q + 1 : Nat) : Int) from by omega]
theorem SlD.put {m : DM} (h : CD m (-1)) {r inc i x y : Int} {e : Ent} {q : Nat} (hq : placeW i = (q : Int)) (hq24 : q < 24) {j : Int} {o : Option (Int × Int × Ent)} (hs : SlD m r q j o) (hr : 0 ≤ r ∧ r ≤ 6) (hi : 0 ≤ i ∧ i ≤ 1099511627776) (hc : 1 ≤ inc ∧ inc ≤ 1099511627776) (hb : balE x y = true) (he : enOk e = true)
    (hcon : o = none ∨ j < i ∨ (j = i ∧ ∀ a b c, o = some (a, b, c) → gtL x y a b)) :
    ∃ m', m.putW r inc i x y e = (0, m') ∧ CD m' (-1) ∧ (NInv m → NInv m') ∧ SlD m' r q i (some (x, y, e)) ∧ ∀ q', q' < 24 → q' ≠ q → ∀ t, slT q' t → m'.hold t = m.hold t := by
  have hk := nextW_two m r i
  have hkn := nextW_of (m := m) (r := r) hq
  obtain ⟨p, hp, hp48, hpc⟩ : ∃ p : Nat, 2 * (q : Int) + m.nextW r i = (p : Int) ∧ p < 48 ∧ ((p = 2 * q ∧ m.nextW r i = 0) ∨ (p = 2 * q + 1 ∧ m.nextW r i = 1)) := by
    rcases hk with hk | hk
    · exact ⟨2 * q, by omega, by omega, .inl ⟨rfl, hk⟩⟩
    · exact ⟨2 * q + 1, by omega, by omega, .inr ⟨rfl, hk⟩⟩
  have m3 := mayW3 (q := q) hr hi hc hq24
  have m4 := mayW4 (p := p) hr hi hc hp48
  have hrb : recB x y (m.nextW r i) = true := recB_iff.2 ⟨balE_iff.1 hb, hk⟩
  obtain ⟨s1, s2, sp⟩ := frmW_sects (x := x) (y := y) (e := e) m4 hb he
  have s3 := recW_sect (x := x) (y := y) m3 hrb
  obtain ⟨m', e1, c1, n1, g1⟩ := h.putK hq24 hp48 (k := m.nextW r i) (x := x) (y := y) (e := e) hp s1 s2 s3
  have hput : m.putW r inc i x y e = (0, m') := by unfold DM.putW; rw [hq]; exact e1
  refine ⟨m', hput, c1, n1, ?_, fun q' hq' hne t ht => ?_⟩
  · -- what is read then
    have hrec : m'.recM r (q : Int) = { st := 1, ix := i, bx := x, yb := y, wh := m.nextW r i } := by
      rw [c1.recM hq24, g1, if_pos rfl]
      exact recW_back m3 hb hk
    have hnew : m'.copM r (p : Int) = { st := 1, ix := i, bx := x, yb := y, e := e } := by
      rw [c1.copM hp48, g1, g1, if_neg (by unfold sF sR; omega), if_neg (by omega), if_pos rfl, if_neg (by unfold sF sR; omega), if_pos rfl, sp]
      exact frmW_back m4 hb he
    have hold : ∀ p', p' < 48 → p' ≠ p → m'.copM r (p' : Int) = m.copM r (p' : Int) := fun p' hp' hne => by
      rw [c1.copM hp', h.copM hp', g1, g1]
      rw [if_neg (by unfold sF sR; omega), if_neg (by unfold sF; omega), if_neg (by unfold sF; omega), if_neg (by unfold sF sR; omega), if_neg (by unfold sF; omega), if_neg (by unfold sF; omega)]
    have := SlH.put (i := i) (x := x) (y := y) (e := e) hs hcon
    rw [← hkn] at this
    unfold SlD
    rw [hrec]
    rcases hpc with ⟨rfl, hz⟩ | ⟨rfl, hz⟩
    · rw [hnew, hold (2 * q + 1) (by omega) (by omega)]
      rw [hz] at this ⊢
      simpa using this
    · rw [hnew, hold (2 * q) (by omega) (by omega)]
      rw [hz] at this ⊢
      simpa using this
  · have hf := putT_far (p := p) hq24 hq' hne (by omega) ht
    unfold putT at hf
    rw [g1 t, if_neg (fun e => hf (.inl e)), if_neg (fun e => hf (.inr (.inr e))), if_neg (fun e => hf (.inr (.inl e)))]

/-! ### Faults -/
/-- A disk that came by faults from one whose sectors held what they were meant to. -/
structure Flt (m0 m : DM) : Prop where
  cd : CD m (-1)
  meant : m.meant = m0.meant
theorem Flt.flip {m0 m : DM} (h : Flt m0 m) (s b : Int) : Flt m0 (m.flip s b).2 := by
  have hok := DM.flip_ok h.cd.b.ok s b
  unfold DM.flip at hok ⊢
  split
  · exact h
  · rename_i hh
    rw [if_neg hh] at hok
    exact ⟨⟨⟨hok, by show (List.set _ _ _).length = 156; rw [List.length_set]; exact h.cd.b.size, h.cd.b.waits, h.cd.b.down⟩, h.cd.dead, h.cd.power⟩, h.meant⟩
theorem Flt.lose {m0 m : DM} (h : Flt m0 m) (s : Int) : Flt m0 (m.lose s).2 := by
  have hok := DM.lose_ok h.cd.b.ok s
  unfold DM.lose at hok ⊢
  split
  · exact h
  · rename_i hh
    rw [if_neg hh] at hok
    exact ⟨⟨⟨hok, h.cd.b.size, h.cd.b.waits, h.cd.b.down⟩, h.cd.dead, h.cd.power⟩, h.meant⟩
theorem Flt.stray {m0 m : DM} (h : Flt m0 m) (a b : Int) : Flt m0 (m.stray a b).2 := by
  have hok := DM.stray_ok h.cd.b.ok a b
  unfold DM.stray at hok ⊢
  split
  · exact h
  · rename_i hh
    rw [if_neg hh] at hok
    exact ⟨⟨⟨hok, by show (List.set _ _ _).length = 156; rw [List.length_set]; exact h.cd.b.size, h.cd.b.waits, h.cd.b.down⟩, h.cd.dead, h.cd.power⟩, h.meant⟩
theorem at_hold {m : DM} (hs : m.size = 156) {t : Nat} (ht : t < 156) : (m.at_ (t : Int)).1 = m.hold t ∧ (m.at_ (t : Int)).2.1 = m.lost.getD t false := by
  have hh : m.has (t : Int) = true := DM.has_iff.2 ⟨by omega, by rw [hs]; omega⟩
  unfold DM.at_ DM.hold
  rw [if_neg (by rw [hh]; simp), Int.toNat_natCast]
  cases hl : m.lost.getD t false <;> simp
/-- A sector that isn't hurt holds what it held. -/
theorem Flt.same {m0 m : DM} (h : Flt m0 m) (h0 : CD m0 (-1)) (hn : NInv m0) {t : Nat} (ht : t < 156) (hu : m.hurt (t : Int) = false) : m.hold t = m0.hold t := by
  obtain ⟨a, b⟩ := unhurt hu
  obtain ⟨c, d⟩ := unhurt (hn.hurt (t : Int))
  rw [← (at_hold h.cd.b.size ht).1, ← (at_hold h0.b.size ht).1, b, d]
  unfold DM.means DM.has
  rw [h.cd.b.size, h0.b.size, h.meant]
theorem wh3 {q : Nat} (h : q < 24) : wReg (sR q : Int) = 3 ∧ wPlc (sR q : Int) = (q : Int) := by
  unfold wReg wPlc sR
  rw [if_neg (by omega), if_neg (by omega), if_neg (by omega), if_pos (by omega), if_neg (by omega), if_neg (by omega), if_neg (by omega), if_pos (by omega)]
  exact ⟨rfl, by omega⟩
theorem wh4 {p j : Nat} (h : p < 48) (hj : j ≤ 1) : wReg ((sF p + j : Nat) : Int) = 4 ∧ wPlc ((sF p + j : Nat) : Int) = (p : Int) := by
  unfold wReg wPlc sF
  rw [if_neg (by omega), if_neg (by omega), if_neg (by omega), if_neg (by omega), if_pos (by omega), if_neg (by omega), if_neg (by omega), if_neg (by omega), if_neg (by omega), if_pos (by omega)]
  exact ⟨rfl, by omega⟩
theorem seen_bad {m : DM} {r : Int} (h : m.seenB r = true) {t : Nat} (ht : t < 156) (hu : m.hurt (t : Int) = true) : m.badB r (wReg (t : Int)) (wPlc (t : Int)) = true := by
  unfold DM.seenB at h
  rw [List.all_eq_true] at h
  exact h _ (hurtsIn_mem.2 ⟨hu, by omega, by omega⟩)
theorem rest_one (m : DM) (hs : m.size = 156) {t : Nat} (ht : t < 156) : m.restL (t : Int) 1 = m.hold t ∧ m.lostB (t : Int) 1 = m.lost.getD t false := by
  obtain ⟨a, b⟩ := at_hold hs ht
  constructor
  · show [] ++ (m.at_ ((t : Int) + ((0 : Nat) : Int))).1 = _
    rw [show (t : Int) + ((0 : Nat) : Int) = (t : Int) from by omega, a]; rfl
  · unfold DM.lostB
    rw [anyIn_succ, anyIn_zero, show (t : Int) + ((0 : Nat) : Int) = (t : Int) from by omega, b]; rfl
theorem rest_two (m : DM) (hs : m.size = 156) {t : Nat} (ht : t + 1 < 156) : m.restL (t : Int) 2 = m.hold t ++ m.hold (t + 1) ∧ m.lostB (t : Int) 2 = (m.lost.getD t false || m.lost.getD (t + 1) false) := by
  obtain ⟨a, b⟩ := at_hold hs (t := t) (by omega)
  obtain ⟨c, d⟩ := at_hold hs ht
  constructor
  · show ([] ++ (m.at_ ((t : Int) + ((0 : Nat) : Int))).1) ++ (m.at_ ((t : Int) + ((1 : Nat) : Int))).1 = _
    rw [show (t : Int) + ((0 : Nat) : Int) = (t : Int) from by omega, show (t : Int) + ((1 : Nat) : Int) = ((t + 1 : Nat) : Int) from by omega, a, c]; rfl
  · unfold DM.lostB
    rw [anyIn_succ, anyIn_succ, anyIn_zero, show (t : Int) + ((0 : Nat) : Int) = (t : Int) from by omega, show (t : Int) + ((1 : Nat) : Int) = ((t + 1 : Nat) : Int) from by omega, b, d]; rfl
theorem hold_lost {m : DM} {t : Nat} (h : m.lost.getD t false = true) : m.hold t = [] := by unfold DM.hold; rw [if_pos h]
theorem hold_full {m : DM} (hok : m.Ok) (hs : m.size = 156) {t : Nat} (ht : t < 156) (h : m.lost.getD t false = false) : m.hold t ≠ [] := by
  have hl : t < m.rest.length := by have : m.rest.length = 156 := hs; omega
  unfold DM.hold
  rw [if_neg (by rw [h]; simp), List.getD_eq_getElem?_getD, List.getElem?_eq_getElem hl, Option.getD_some]
  intro he
  have := (hok.rests _ (List.getElem_mem hl)).1
  rw [he] at this
  cases this
/-- What a record, a frame, is read as behind faults that are seen. -/
theorem Flt.rec_ {m0 m : DM} (h : Flt m0 m) (h0 : CD m0 (-1)) (hn : NInv m0) {r : Int} (hs : m.seenB r = true) {q : Nat} (hq : q < 24) : HrtR (m0.recM r (q : Int)) (m.recM r (q : Int)) ∧ (anyIn m.hurt (firstS 3 (q : Int)) (wid 3) = false → m.recM r (q : Int) = m0.recM r (q : Int)) := by
  rw [h0.recM hq, h.cd.recM hq, first3 hq]
  have hy : ∀ {hu : m.hurt (sR q : Int) = false}, m.hold (sR q) = m0.hold (sR q) := fun {hu} => h.same h0 hn (sR_lt hq) hu
  constructor
  · by_cases hu : m.hurt (sR q : Int) = true
    · have hb := seen_bad hs (sR_lt hq) hu
      rw [(wh3 hq).1, (wh3 hq).2] at hb
      unfold DM.badB at hb
      rw [first3 hq, show wid 3 = 1 from rfl, (rest_one m h.cd.b.size (sR_lt hq)).1, (rest_one m h.cd.b.size (sR_lt hq)).2, Bool.or_eq_true, decide_eq_true_iff] at hb
      right
      rcases hb with hb | hb
      · rw [hold_lost hb, recQ_nil]
      · unfold recQ; rw [hb]; rfl
    · exact .inl (by rw [hy (hu := by simpa using hu)])
  · intro ha
    have : m.hurt (sR q : Int) = false := by
      rw [show wid 3 = 1 from rfl, anyIn_succ, anyIn_zero, show ((sR q : Nat) : Int) + ((0 : Nat) : Int) = (sR q : Int) from by omega] at ha
      simpa using ha
    rw [hy (hu := this)]
theorem Flt.cop_ {m0 m : DM} (h : Flt m0 m) (h0 : CD m0 (-1)) (hn : NInv m0) {r : Int} (hs : m.seenB r = true) {p : Nat} (hp : p < 48) : HrtC (m0.copM r (p : Int)) (m.copM r (p : Int)) ∧ (anyIn m.hurt (firstS 4 (p : Int)) (wid 4) = false → m.copM r (p : Int) = m0.copM r (p : Int)) := by
  have hlt := sF_lt hp
  rw [h0.copM hp, h.cd.copM hp, first4 hp]
  have two : anyIn m.hurt (sF p : Int) 2 = (m.hurt (sF p : Int) || m.hurt ((sF p + 1 : Nat) : Int)) := by
    rw [anyIn_succ, anyIn_succ, anyIn_zero, show ((sF p : Nat) : Int) + ((0 : Nat) : Int) = (sF p : Int) from by omega, show ((sF p : Nat) : Int) + ((1 : Nat) : Int) = ((sF p + 1 : Nat) : Int) from by omega]; rfl
  have same : m.hurt (sF p : Int) = false → m.hurt ((sF p + 1 : Nat) : Int) = false → pair2 (m.hold (sF p)) (m.hold (sF p + 1)) = pair2 (m0.hold (sF p)) (m0.hold (sF p + 1)) := fun a b => by rw [h.same h0 hn (by omega) a, h.same h0 hn hlt b]
  have bad : m.badB r 4 (p : Int) = true → (copQ r (p : Int) (pair2 (m.hold (sF p)) (m.hold (sF p + 1)))).st = 2 := fun hb => by
    unfold DM.badB at hb
    rw [first4 hp, show wid 4 = 2 from rfl, (rest_two m h.cd.b.size hlt).1, (rest_two m h.cd.b.size hlt).2, Bool.or_eq_true, Bool.or_eq_true, decide_eq_true_iff] at hb
    by_cases hl : m.lost.getD (sF p) false = true ∨ m.lost.getD (sF p + 1) false = true
    · have : pair2 (m.hold (sF p)) (m.hold (sF p + 1)) = [] := by
        unfold pair2
        rcases hl with hl | hl
        · rw [if_pos (.inl (hold_lost hl))]
        · rw [if_pos (.inr (hold_lost hl))]
      rw [this, copQ_nil]
    · have hb2 := hb.resolve_left hl
      have : pair2 (m.hold (sF p)) (m.hold (sF p + 1)) = m.hold (sF p) ++ m.hold (sF p + 1) := by
        unfold pair2
        rw [if_neg]
        rintro (e | e)
        · exact hold_full h.cd.b.ok h.cd.b.size (by omega) (by simpa using fun x => hl (.inl x)) e
        · exact hold_full h.cd.b.ok h.cd.b.size hlt (by simpa using fun x => hl (.inr x)) e
      rw [this]
      unfold copQ
      rw [hb2]
      rfl
  constructor
  · by_cases hu : m.hurt (sF p : Int) = true
    · have hb := seen_bad hs (by omega) hu
      have h4 := wh4 hp (j := 0) (by omega)
      rw [Nat.add_zero] at h4
      rw [h4.1, h4.2] at hb
      exact .inr (bad hb)
    · by_cases hu2 : m.hurt ((sF p + 1 : Nat) : Int) = true
      · have hb := seen_bad hs hlt hu2
        rw [(wh4 hp (j := 1) (by omega)).1, (wh4 hp (j := 1) (by omega)).2] at hb
        exact .inr (bad hb)
      · exact .inl (by rw [same (by simpa using hu) (by simpa using hu2)])
  · intro ha
    rw [show wid 4 = 2 from rfl, two, Bool.or_eq_false_iff] at ha
    rw [same ha.1 ha.2]
end Go.Proofs.YtmacebglfniegaaGreatDoor
