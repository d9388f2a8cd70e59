/-
  Plain facts on bodies (a ballot, and an entry behind it), without any program.
  Plain facts on the bodies of records, without any program.
  Plain facts on slots, without any program: what a slot is, by its record and its two frames; over which frame the next put goes; puts that end anywhere.
  What a call leaves alone that writes in blocks of its own: all that was there but the blocks of F; no program.
-/
import Derived.Test.YtejejadbemkifaaDoorQ01
import Derived.Test.YtejejadbemkifaaDoorQ03
namespace Go.Proofs.YtejejadbemkifaaDoor
set_option maxRecDepth 100000
open Go

/-- Which ballots may be. -/
def balE (x y : Int) : Bool := decide (1 ≤ x ∧ x ≤ 1099511627776 ∧ 0 ≤ y ∧ y ≤ 6)
theorem balE_iff {x y : Int} : balE x y = true ↔ (1 ≤ x ∧ x ≤ 1099511627776 ∧ 0 ≤ y ∧ y ≤ 6) := by unfold balE; exact decide_eq_true_iff
def bodyL (x y : Int) (e : Ent) : List Nat := digs 6 x.toNat ++ [y.toNat] ++ enL e
theorem bodyL_len {x y : Int} {e : Ent} (h : enOk e = true) : 8 ≤ (bodyL x y e).length ∧ (bodyL x y e).length ≤ 59 := by
  have := enL_len h
  unfold bodyL
  simp only [List.length_append, List.length_cons, List.length_nil, digs_length]
  omega
theorem bodyL_lt {x y : Int} {e : Ent} (h : enOk e = true) (hb : balE x y = true) : ∀ z ∈ bodyL x y e, z < 256 := by
  have hb := balE_iff.1 hb
  intro z hz
  unfold bodyL at hz
  simp only [List.mem_append, List.mem_singleton] at hz
  rcases hz with (hz | hz) | hz
  · exact digs_lt _ _ _ hz
  · omega
  · exact enL_lt h _ hz
/-- The body that bytes are. -/
def bdR (l : List Nat) : Option (Nat × Nat × Ent) :=
  if l.length < 7 then none else (enR l 7).bind fun r => if r.2 = l.length ∧ balE (num (l.take 6) : Nat) (l.getD 6 0 : Nat) = true then some (num (l.take 6), l.getD 6 0, r.1) else none
theorem bd_back {x y : Int} {e : Ent} (h : enOk e = true) (hb : balE x y = true) : ∃ a b : Nat, x = a ∧ y = b ∧ bdR (bodyL x y e) = some (a, b, e) := by
  have hbb := balE_iff.1 hb
  obtain ⟨a, rfl⟩ := Int.eq_ofNat_of_zero_le (show 0 ≤ x by omega)
  obtain ⟨b, rfl⟩ := Int.eq_ofNat_of_zero_le (show 0 ≤ y by omega)
  refine ⟨a, b, rfl, rfl, ?_⟩
  have hlen := bodyL_len (x := (a : Int)) (y := (b : Int)) h
  have h7 : (digs 6 a ++ [b]).length = 7 := by simp [digs_length]
  have hL : bodyL (a : Int) (b : Int) e = (digs 6 a ++ [b]) ++ enL e ++ [] := by unfold bodyL; simp
  have hr : enR (bodyL (a : Int) (b : Int) e) 7 = some (e, (bodyL (a : Int) (b : Int) e).length) := by
    have := en_back h (digs 6 a ++ [b]) []
    rw [← hL, h7] at this
    rw [this, hL]
    simp only [List.append_nil, List.length_append, h7]
  have ht : (bodyL (a : Int) (b : Int) e).take 6 = digs 6 a := by
    unfold bodyL
    rw [List.append_assoc, List.take_append_of_le_length (by rw [digs_length]; exact Nat.le_refl _), List.take_of_length_le (by rw [digs_length]; exact Nat.le_refl _)]
    rfl
  have h6 : (bodyL (a : Int) (b : Int) e).getD 6 0 = b := by
    rw [List.getD_eq_getElem?_getD]
    unfold bodyL
    rw [List.append_assoc, List.getElem?_append_right (by rw [digs_length]; exact Nat.le_refl _), digs_length]
    rfl
  unfold bdR
  rw [if_neg (by omega), hr]
  simp only [Option.bind_some]
  rw [ht, h6, num_digs 6 a (by omega)]
  simp [hb]
theorem bd_of {l : List Nat} {a b : Nat} {e : Ent} (hl : ∀ x ∈ l, x < 256) (h : bdR l = some (a, b, e)) : bodyL a b e = l ∧ enOk e = true ∧ balE a b = true := by
  unfold bdR at h
  by_cases h7 : l.length < 7
  · rw [if_pos h7] at h; cases h
  · rw [if_neg h7] at h
    cases hr : enR l 7 with
    | none => rw [hr] at h; cases h
    | some r =>
      obtain ⟨e', n⟩ := r
      rw [hr] at h
      simp only [Option.bind_some] at h
      by_cases hc : n = l.length ∧ balE (num (l.take 6) : Nat) (l.getD 6 0 : Nat) = true
      · rw [if_pos hc] at h
        injection h with h
        injection h with ha h
        injection h with hb he
        subst ha hb he
        obtain ⟨hn, hbal⟩ := hc
        obtain ⟨_, _, h3, h4⟩ := en_of hl hr
        refine ⟨?_, h4, hbal⟩
        have hd : digs 6 (num (l.take 6)) = l.take 6 := by
          have := digs_num (l.take 6) (fun x hx => hl x (List.mem_of_mem_take hx))
          rw [List.length_take, Nat.min_eq_left (by omega)] at this
          exact this
        unfold bodyL
        rw [Int.toNat_natCast, Int.toNat_natCast, hd, ← h3, hn]
        have h6 : (l.drop 6).take 1 = [l.getD 6 0] := take_one (getD_some (by omega))
        rw [← h6]
        have e1 : l.take 6 ++ (l.drop 6).take 1 = l.take 7 := by rw [← List.take_add]
        have e2 : (l.drop 7).take (l.length - 7) = l.drop 7 := List.take_of_length_le (by rw [List.length_drop]; exact Nat.le_refl _)
        rw [e1, e2, List.take_append_drop]
      · rw [if_neg hc] at h; cases h
/-- A body that is cut, or has more behind it, is none. -/
theorem bd_other {l l' : List Nat} (hl : ∀ x ∈ l, x < 256) (hl' : ∀ x ∈ l', x < 256) {a b : Nat} {e : Ent} (h : bdR l = some (a, b, e)) (hne : l'.length ≠ l.length) (hp : (∃ t, l = l' ++ t) ∨ ∃ t, l' = l ++ t) : bdR l' = none := by
  cases hr : bdR l' with
  | none => rfl
  | some r =>
    exfalso
    have key : ∀ (x y : List Nat), (∀ z ∈ x, z < 256) → (∃ r, bdR x = some r) → (∃ r, bdR y = some r) → (∃ t, y = x ++ t) → y.length = x.length := by
      intro x y hx hxr hyr ht
      obtain ⟨r1, h1⟩ := hxr
      obtain ⟨r2, h2⟩ := hyr
      obtain ⟨t, rfl⟩ := ht
      unfold bdR at h1 h2
      split at h1
      · cases h1
      · split at h2
        · cases h2
        · cases e1 : enR x 7 with
          | none => rw [e1] at h1; cases h1
          | some r =>
            obtain ⟨e1', n1⟩ := r
            rw [e1] at h1
            simp only [Option.bind_some] at h1
            split at h1
            · rename_i hc
              have hn : n1 = x.length := hc.1
              have := en_agree hx e1 (l' := x ++ t) (by rw [hn, List.take_left, List.take_of_length_le (Nat.le_refl _)])
              rw [this] at h2
              simp only [Option.bind_some] at h2
              split at h2
              · rename_i hc2
                have h3 : n1 = (x ++ t).length := hc2.1
                omega
              · cases h2
            · cases h1
    rcases hp with hp | hp
    · exact hne (key l' l hl' ⟨_, hr⟩ ⟨_, h⟩ hp).symm
    · exact hne (key l l' hl ⟨_, h⟩ ⟨_, hr⟩ hp)
end Go.Proofs.YtejejadbemkifaaDoor

namespace Go.Proofs.YtejejadbemkifaaDoor
set_option maxRecDepth 100000
open Go

/-- Which records may be. -/
def recB (x y h : Int) : Bool := balE x y && decide (h = 0 ∨ h = 1)
theorem recB_iff {x y h : Int} : recB x y h = true ↔ (1 ≤ x ∧ x ≤ 1099511627776 ∧ 0 ≤ y ∧ y ≤ 6) ∧ (h = 0 ∨ h = 1) := by
  unfold recB
  rw [Bool.and_eq_true, balE_iff, decide_eq_true_iff]
/-- A record's bytes. -/
def recL (x y h : Int) : List Nat := digs 6 x.toNat ++ [y.toNat] ++ [h.toNat]
theorem recL_length (x y h : Int) : (recL x y h).length = 8 := by unfold recL; simp [digs_length]
theorem recL_lt {x y h : Int} (hb : recB x y h = true) : ∀ z ∈ recL x y h, z < 256 := by
  have hb := recB_iff.1 hb
  intro z hz
  unfold recL at hz
  simp only [List.mem_append, List.mem_singleton] at hz
  rcases hz with (hz | hz) | hz
  · exact digs_lt _ _ _ hz
  · omega
  · omega
/-- The record that bytes are. -/
def recR (l : List Nat) : Option (Nat × Nat × Nat) :=
  if l.length = 8 ∧ l.getD 7 0 ≤ 1 ∧ balE (num (l.take 6) : Nat) (l.getD 6 0 : Nat) = true then some (num (l.take 6), l.getD 6 0, l.getD 7 0) else none
theorem recR_some {l : List Nat} {x y h : Nat} (hr : recR l = some (x, y, h)) : l.length = 8 ∧ h ≤ 1 ∧ balE (x : Nat) (y : Nat) = true ∧ num (l.take 6) = x ∧ l[6]? = some y ∧ l[7]? = some h := by
  unfold recR at hr
  split at hr
  · rename_i hc
    injection hr with hr
    injection hr with h1 hr
    injection hr with h2 h3
    subst h1 h2 h3
    exact ⟨hc.1, hc.2.1, hc.2.2, rfl, getD_some (by omega), getD_some (by omega)⟩
  · cases hr
theorem rec_back {x y h : Int} (hb : recB x y h = true) : ∃ a b c : Nat, x = a ∧ y = b ∧ h = c ∧ recR (recL x y h) = some (a, b, c) := by
  have hbb := recB_iff.1 hb
  obtain ⟨a, rfl⟩ := Int.eq_ofNat_of_zero_le (show 0 ≤ x by omega)
  obtain ⟨b, rfl⟩ := Int.eq_ofNat_of_zero_le (show 0 ≤ y by omega)
  obtain ⟨c, rfl⟩ := Int.eq_ofNat_of_zero_le (show 0 ≤ h by omega)
  refine ⟨a, b, c, rfl, rfl, rfl, ?_⟩
  have ht : (recL (a : Int) (b : Int) (c : Int)).take 6 = digs 6 a := by
    unfold recL
    rw [List.append_assoc, List.take_append_of_le_length (by rw [digs_length]; exact Nat.le_refl _), List.take_of_length_le (by rw [digs_length]; exact Nat.le_refl _)]
    rfl
  have h6 : (recL (a : Int) (b : Int) (c : Int)).getD 6 0 = b := by
    rw [List.getD_eq_getElem?_getD]
    unfold recL
    rw [List.append_assoc, List.getElem?_append_right (by rw [digs_length]; exact Nat.le_refl _), digs_length]
    rfl
  have h7 : (recL (a : Int) (b : Int) (c : Int)).getD 7 0 = c := by
    rw [List.getD_eq_getElem?_getD]
    unfold recL
    rw [List.append_assoc, List.getElem?_append_right (by rw [digs_length]; omega), digs_length]
    rfl
  unfold recR
  have hbal : balE (a : Int) (b : Int) = true := balE_iff.2 hbb.1
  rw [recL_length, ht, h6, h7, num_digs 6 a (by omega), if_pos ⟨rfl, by omega, hbal⟩]
theorem rec_of {l : List Nat} {x y h : Nat} (hl : ∀ z ∈ l, z < 256) (hr : recR l = some (x, y, h)) : recL (x : Int) (y : Int) (h : Int) = l ∧ recB (x : Int) (y : Int) (h : Int) = true := by
  obtain ⟨h1, h2, h3, h4, h5, h6⟩ := recR_some hr
  refine ⟨?_, recB_iff.2 ⟨balE_iff.1 h3, by omega⟩⟩
  have hd : digs 6 x = l.take 6 := by
    have := digs_num (l.take 6) (fun z hz => hl z (List.mem_of_mem_take hz))
    rw [List.length_take, Nat.min_eq_left (by omega), h4] at this
    exact this
  unfold recL
  rw [Int.toNat_natCast, Int.toNat_natCast, Int.toNat_natCast, hd]
  have e6 : (l.drop 6).take 1 = [y] := take_one h5
  have e7 : (l.drop 7).take 1 = [h] := take_one h6
  rw [← e6, ← e7, ← List.take_add, ← List.take_add]
  exact List.take_of_length_le (by omega)
/-- What Print and Parse answer, told in one form. -/
def rcL (x y h : Int) : List Nat := if recB x y h = true then recL x y h else []
def rcE (x y h : Int) : Int := if recB x y h = true then 0 else 2
theorem rcL_yes {x y h : Int} (hb : recB x y h = true) : rcL x y h = recL x y h := if_pos hb
theorem rcE_yes {x y h : Int} (hb : recB x y h = true) : rcE x y h = 0 := if_pos hb
theorem rcL_no {x y h : Int} (hb : recB x y h = false) : rcL x y h = [] := by unfold rcL; rw [hb]; rfl
theorem rcE_no {x y h : Int} (hb : recB x y h = false) : rcE x y h = 2 := by unfold rcE; rw [hb]; rfl
def rcR (l : List Nat) : Nat × Nat × Nat × Int := match recR l with | some (x, y, h) => (x, y, h, 0) | none => (0, 0, 0, 90)
theorem rcR_some {l : List Nat} {x y h : Nat} (hr : recR l = some (x, y, h)) : rcR l = (x, y, h, 0) := by unfold rcR; rw [hr]
theorem rcR_none {l : List Nat} (hr : recR l = none) : rcR l = (0, 0, 0, 90) := by unfold rcR; rw [hr]
theorem recR_len {l : List Nat} (h : l.length ≠ 8) : recR l = none := if_neg fun hc => h hc.1
theorem recR_which {l : List Nat} {h : Nat} (h7 : l[7]? = some h) (h1 : 1 < h) : recR l = none := by
  unfold recR
  rw [if_neg]
  rintro ⟨_, h2, _⟩
  rw [List.getD_eq_getElem?_getD, h7] at h2
  simp at h2
  omega
theorem recR_bal {l : List Nat} {y : Nat} (h6 : l[6]? = some y) (hb : balE (num (l.take 6) : Nat) (y : Nat) = false) : recR l = none := by
  unfold recR
  rw [if_neg]
  rintro ⟨_, _, h2⟩
  rw [List.getD_eq_getElem?_getD, h6] at h2
  simp only [Option.getD_some] at h2
  rw [hb] at h2
  cases h2
theorem recR_yes {l : List Nat} {y h : Nat} (h8 : l.length = 8) (h6 : l[6]? = some y) (h7 : l[7]? = some h) (h1 : h ≤ 1) (hb : balE (num (l.take 6) : Nat) (y : Nat) = true) : recR l = some (num (l.take 6), y, h) := by
  unfold recR
  rw [show l.getD 6 0 = y from by rw [List.getD_eq_getElem?_getD, h6]; rfl, show l.getD 7 0 = h from by rw [List.getD_eq_getElem?_getD, h7]; rfl, if_pos ⟨h8, h1, hb⟩]
end Go.Proofs.YtejejadbemkifaaDoor

namespace Go.Proofs.YtejejadbemkifaaDoor
set_option maxRecDepth 100000
open Go

/-- A record that was read; a frame that was read. -/
structure Rec where
  st : Nat := 0
  ix : Int := 0
  bx : Int := 0
  yb : Int := 0
  wh : Int := 0
instance : Inhabited Rec := ⟨{}⟩
structure Cop where
  st : Nat := 0
  ix : Int := 0
  bx : Int := 0
  yb : Int := 0
  e : Ent := {}
instance : Inhabited Cop := ⟨{}⟩
def Rec.of (p : Rec) (i : Int) : Prop := p.st = 1 ∧ p.ix = i
def Cop.of (c : Cop) (i : Int) : Prop := c.st = 1 ∧ c.ix = i
/-- Is the second ballot below the first one? -/
def gtL (x y a b : Int) : Prop := a < x ∨ (a = x ∧ b < y)
instance (p : Rec) (i : Int) : Decidable (p.of i) := by unfold Rec.of; exact inferInstance
instance (c : Cop) (i : Int) : Decidable (c.of i) := by unfold Cop.of; exact inferInstance
instance (x y a b : Int) : Decidable (gtL x y a b) := by unfold gtL; exact inferInstance
def beyL (p : Rec) (f0 f1 : Cop) (i : Int) : Prop := (p.st = 1 ∧ i < p.ix) ∨ (f0.st = 1 ∧ i < f0.ix) ∨ (f1.st = 1 ∧ i < f1.ix)
def badL (f0 f1 : Cop) : Prop := f0.st = 2 ∨ f1.st = 2
instance (p : Rec) (f0 f1 : Cop) (i : Int) : Decidable (beyL p f0 f1 i) := by unfold beyL; exact inferInstance
instance (f0 f1 : Cop) : Decidable (badL f0 f1) := by unfold badL; exact inferInstance
def candL (p : Rec) (c : Cop) (i : Int) : Prop := c.of i ∧ ¬ gtL p.bx p.yb c.bx c.yb
instance (p : Rec) (c : Cop) (i : Int) : Decidable (candL p c i) := by unfold candL; exact inferInstance
def pickW (a b h : Prop) [Decidable a] [Decidable b] [Decidable h] : Int := if a ∧ b then (if h then 1 else 0) else if a then 0 else if b then 1 else -1
/-- By which frame a slot is intact; -1: by none. -/
def whereL (p : Rec) (f0 f1 : Cop) (i : Int) : Int :=
  if p.of i then (if p.wh = 1 then pickW (candL p f0 i) (candL p f1 i) (¬ gtL f0.bx f0.yb f1.bx f1.yb) else pickW (candL p f0 i) (candL p f1 i) (gtL f1.bx f1.yb f0.bx f0.yb))
  else if beyL p f0 f1 i ∨ (p.st = 2 ∧ badL f0 f1) then -1
  else pickW (f0.of i) (f1.of i) (gtL f1.bx f1.yb f0.bx f0.yb)
/-- What a slot is: 0 absent, 1 torn, 2 corrupt, 3 intact. -/
def classL (p : Rec) (f0 f1 : Cop) (i : Int) : Nat :=
  if 0 ≤ whereL p f0 f1 i then 3 else if p.of i then 2 else if beyL p f0 f1 i ∨ (p.st = 2 ∧ badL f0 f1) then 2 else if badL f0 f1 then 1 else 0
/-- Over which frame the next put goes. -/
def nextL (p : Rec) (f0 f1 : Cop) (i : Int) : Int :=
  if 0 ≤ whereL p f0 f1 i then 1 - whereL p f0 f1 i else if p.st = 1 ∧ p.wh = 0 then 1 else 0
def cop (f0 f1 : Cop) (k : Int) : Cop := if k = 0 then f0 else f1
/-- The ballot that is told. -/
def repX (p : Rec) (f0 f1 : Cop) (i : Int) : Int := if 0 ≤ whereL p f0 f1 i then (cop f0 f1 (whereL p f0 f1 i)).bx else if p.of i then p.bx else 0
def repY (p : Rec) (f0 f1 : Cop) (i : Int) : Int := if 0 ≤ whereL p f0 f1 i then (cop f0 f1 (whereL p f0 f1 i)).yb else if p.of i then p.yb else 0
def repE (p : Rec) (f0 f1 : Cop) (i : Int) : Ent := if 0 ≤ whereL p f0 f1 i then (cop f0 f1 (whereL p f0 f1 i)).e else {}
theorem pickW_cases {a b h : Prop} [Decidable a] [Decidable b] [Decidable h] : (pickW a b h = -1 ∧ ¬ a ∧ ¬ b) ∨ (pickW a b h = 0 ∧ a ∧ (b → ¬ h)) ∨ (pickW a b h = 1 ∧ b ∧ (a → h)) := by
  unfold pickW
  by_cases ha : a <;> by_cases hb : b <;> by_cases hh : h <;> simp [ha, hb, hh]
theorem whereL_of {p : Rec} {f0 f1 : Cop} {i : Int} : (whereL p f0 f1 i = -1) ∨ (whereL p f0 f1 i = 0 ∧ f0.of i) ∨ (whereL p f0 f1 i = 1 ∧ f1.of i) := by
  unfold whereL
  split
  · split
    · rcases pickW_cases (a := candL p f0 i) (b := candL p f1 i) (h := ¬ gtL f0.bx f0.yb f1.bx f1.yb) with h | h | h
      · exact .inl h.1
      · exact .inr (.inl ⟨h.1, h.2.1.1⟩)
      · exact .inr (.inr ⟨h.1, h.2.1.1⟩)
    · rcases pickW_cases (a := candL p f0 i) (b := candL p f1 i) (h := gtL f1.bx f1.yb f0.bx f0.yb) with h | h | h
      · exact .inl h.1
      · exact .inr (.inl ⟨h.1, h.2.1.1⟩)
      · exact .inr (.inr ⟨h.1, h.2.1.1⟩)
  · split
    · exact .inl rfl
    · rcases pickW_cases (a := f0.of i) (b := f1.of i) (h := gtL f1.bx f1.yb f0.bx f0.yb) with h | h | h
      · exact .inl h.1
      · exact .inr (.inl ⟨h.1, h.2.1⟩)
      · exact .inr (.inr ⟨h.1, h.2.1⟩)
/-- Where the next put goes: never over the frame by which the slot is intact. -/
theorem nextL_two (p : Rec) (f0 f1 : Cop) (i : Int) : (nextL p f0 f1 i = 0 ∨ nextL p f0 f1 i = 1) ∧ (0 ≤ whereL p f0 f1 i → nextL p f0 f1 i ≠ whereL p f0 f1 i) := by
  unfold nextL
  rcases whereL_of (p := p) (f0 := f0) (f1 := f1) (i := i) with h | ⟨h, _⟩ | ⟨h, _⟩ <;> rw [h]
  · rw [if_neg (by omega)]
    split <;> simp
  · simp
  · simp
theorem classL_three {p : Rec} {f0 f1 : Cop} {i : Int} : classL p f0 f1 i = 3 ↔ 0 ≤ whereL p f0 f1 i := by
  unfold classL
  by_cases h : 0 ≤ whereL p f0 f1 i
  · simp [h]
  · simp only [h, if_false]
    constructor
    · intro hh
      split at hh
      · omega
      · split at hh
        · omega
        · split at hh <;> omega
    · intro hh
      cases hh
/-- What holds along puts without damage: a is the greatest round that was acknowledged (0: none), r the greatest that was tried. -/
structure TInv (i r a : Int) (p : Rec) (f0 f1 : Cop) : Prop where
  p1 : p.st ≤ 1
  p2 : p.st = 1 → p.ix ≤ i
  p3 : p.wh = 0 ∨ p.wh = 1
  a1 : f0.st ≤ 2
  a2 : f0.st = 1 → f0.ix ≤ i
  a3 : f0.of i → f0.yb = 1 ∧ 2 ≤ f0.bx ∧ f0.bx ≤ r
  b1 : f1.st ≤ 2
  b2 : f1.st = 1 → f1.ix ≤ i
  b3 : f1.of i → f1.yb = 1 ∧ 2 ≤ f1.bx ∧ f1.bx ≤ r
  q1 : p.of i → p.yb = 1 ∧ 2 ≤ p.bx ∧ p.bx ≤ r ∧ a = p.bx
  q2 : p.of i → (f0.of i ∧ p.bx ≤ f0.bx) ∨ (f1.of i ∧ p.bx ≤ f1.bx)
  q3 : ¬ p.of i → a = 0
theorem TInv.where_ {i r a : Int} {p : Rec} {f0 f1 : Cop} (h : TInv i r a p f0 f1) :
    (whereL p f0 f1 i = -1 ∧ ¬ p.of i ∧ ¬ f0.of i ∧ ¬ f1.of i) ∨
    (whereL p f0 f1 i = 0 ∧ f0.of i ∧ (p.of i → p.bx ≤ f0.bx) ∧ (f1.of i → f1.bx ≤ f0.bx)) ∨
    (whereL p f0 f1 i = 1 ∧ f1.of i ∧ (p.of i → p.bx ≤ f1.bx) ∧ (f0.of i → f0.bx ≤ f1.bx)) := by
  unfold whereL
  by_cases hp : p.of i
  · rw [if_pos hp]
    obtain ⟨y1, y2, y3, y4⟩ := h.q1 hp
    have hq := h.q2 hp
    have c0 : candL p f0 i ↔ f0.of i ∧ p.bx ≤ f0.bx := by
      unfold candL gtL
      constructor
      · rintro ⟨h1, h2⟩; exact ⟨h1, by have := h.a3 h1; omega⟩
      · rintro ⟨h1, h2⟩; exact ⟨h1, by have := h.a3 h1; omega⟩
    have c1 : candL p f1 i ↔ f1.of i ∧ p.bx ≤ f1.bx := by
      unfold candL gtL
      constructor
      · rintro ⟨h1, h2⟩; exact ⟨h1, by have := h.b3 h1; omega⟩
      · rintro ⟨h1, h2⟩; exact ⟨h1, by have := h.b3 h1; omega⟩
    have g1 : f0.of i → f1.of i → (gtL f0.bx f0.yb f1.bx f1.yb ↔ f1.bx < f0.bx) := fun x y => by
      unfold gtL
      have := h.a3 x
      have := h.b3 y
      omega
    have g2 : f0.of i → f1.of i → (gtL f1.bx f1.yb f0.bx f0.yb ↔ f0.bx < f1.bx) := fun x y => by
      unfold gtL
      have := h.a3 x
      have := h.b3 y
      omega
    have two : ∀ hh : Prop, ∀ [Decidable hh], (f0.of i → f1.of i → (hh → f0.bx ≤ f1.bx) ∧ (¬ hh → f1.bx ≤ f0.bx)) →
        (pickW (candL p f0 i) (candL p f1 i) hh = -1 ∧ ¬ p.of i ∧ ¬ f0.of i ∧ ¬ f1.of i) ∨
        (pickW (candL p f0 i) (candL p f1 i) hh = 0 ∧ f0.of i ∧ (p.of i → p.bx ≤ f0.bx) ∧ (f1.of i → f1.bx ≤ f0.bx)) ∨
        (pickW (candL p f0 i) (candL p f1 i) hh = 1 ∧ f1.of i ∧ (p.of i → p.bx ≤ f1.bx) ∧ (f0.of i → f0.bx ≤ f1.bx)) := by
      intro hh _ hc
      rcases pickW_cases (a := candL p f0 i) (b := candL p f1 i) (h := hh) with ⟨e, n0, n1⟩ | ⟨e, n0, n1⟩ | ⟨e, n0, n1⟩
      · rw [c0] at n0
        rw [c1] at n1
        exact absurd hq fun hq => hq.elim n0 n1
      · have m0 := c0.1 n0
        refine .inr (.inl ⟨e, m0.1, fun _ => m0.2, fun hf1 => ?_⟩)
        by_cases hb : candL p f1 i
        · exact (hc m0.1 hf1).2 (n1 hb)
        · rw [c1] at hb
          have : ¬ p.bx ≤ f1.bx := fun hx => hb ⟨hf1, hx⟩
          omega
      · have m1 := c1.1 n0
        refine .inr (.inr ⟨e, m1.1, fun _ => m1.2, fun hf0 => ?_⟩)
        by_cases hb : candL p f0 i
        · exact (hc hf0 m1.1).1 (n1 hb)
        · rw [c0] at hb
          have : ¬ p.bx ≤ f0.bx := fun hx => hb ⟨hf0, hx⟩
          omega
    split
    · exact two _ fun x y => ⟨fun hh => by rw [g1 x y] at hh; omega, fun hh => by rw [g1 x y] at hh; omega⟩
    · exact two _ fun x y => ⟨fun hh => by rw [g2 x y] at hh; omega, fun hh => by rw [g2 x y] at hh; omega⟩
  · rw [if_neg hp, if_neg (by
      intro hh
      unfold beyL at hh
      rcases hh with (⟨h1, h2⟩ | ⟨h1, h2⟩ | ⟨h1, h2⟩) | ⟨h1, _⟩
      · have := h.p2 h1; omega
      · have := h.a2 h1; omega
      · have := h.b2 h1; omega
      · have := h.p1; omega)]
    rcases pickW_cases (a := f0.of i) (b := f1.of i) (h := gtL f1.bx f1.yb f0.bx f0.yb) with ⟨e, n0, n1⟩ | ⟨e, n0, n1⟩ | ⟨e, n0, n1⟩
    · exact .inl ⟨e, hp, n0, n1⟩
    · refine .inr (.inl ⟨e, n0, fun hh => absurd hh hp, fun hf1 => ?_⟩)
      have := n1 hf1
      unfold gtL at this
      have := h.a3 n0
      have := h.b3 hf1
      omega
    · refine .inr (.inr ⟨e, n0, fun hh => absurd hh hp, fun hf0 => ?_⟩)
      have := n1 hf0
      unfold gtL at this
      have := h.a3 hf0
      have := h.b3 n0
      omega
theorem TInv.class_ {i r a : Int} {p : Rec} {f0 f1 : Cop} (h : TInv i r a p f0 f1) : classL p f0 f1 i ≠ 2 := by
  unfold classL
  rcases h.where_ with ⟨e, n, _⟩ | ⟨e, _⟩ | ⟨e, _⟩
  · rw [e, if_neg (by omega), if_neg n, if_neg (by
      intro hh
      unfold beyL at hh
      rcases hh with (⟨h1, h2⟩ | ⟨h1, h2⟩ | ⟨h1, h2⟩) | ⟨h1, _⟩
      · have := h.p2 h1; omega
      · have := h.a2 h1; omega
      · have := h.b2 h1; omega
      · have := h.p1; omega)]
    split <;> simp
  · rw [e]; simp
  · rw [e]; simp
end Go.Proofs.YtejejadbemkifaaDoor

namespace Go.Proofs.YtejejadbemkifaaDoor
set_option maxRecDepth 100000
open Go Go.RowKit

/-- All blocks that were there, but those of F, are as they were. -/
structure Mod (F : Nat → Prop) (w w' : World) : Prop where
  os : w'.os = w.os
  tape : w'.tape = w.tape
  output : w'.output = w.output
  size : w.heap.size ≤ w'.heap.size
  block : ∀ k, k < w.heap.size → ¬ F k → w'.heap[k]? = w.heap[k]?
section
variable {F G : Nat → Prop} {a b c w w' : World}
theorem Mod.refl (F : Nat → Prop) (w : World) : Mod F w w := ⟨rfl, rfl, rfl, Nat.le_refl _, fun _ _ _ => rfl⟩
theorem Mod.trans (h : Mod F a b) (k : Mod G b c) (hG : ∀ i, G i → F i ∨ a.heap.size ≤ i) : Mod F a c :=
  ⟨k.os.trans h.os, k.tape.trans h.tape, k.output.trans h.output, Nat.le_trans h.size k.size, fun i hi hf =>
    (k.block i (Nat.lt_of_lt_of_le hi h.size) fun hg => (hG i hg).elim hf fun hl => absurd hi (by omega)).trans (h.block i hi hf)⟩
theorem Mod.of_ext (h : Ext w w') : Mod F w w' := ⟨h.os, h.tape, h.output, h.size, fun k hk _ => h.block k hk⟩
theorem Mod.ext (h : Mod F a b) (k : Ext b c) : Mod F a c := h.trans (F := F) (G := F) (Mod.of_ext k) fun _ hi => .inl hi
theorem Mod.mono (h : Mod F w w') (hG : ∀ i, F i → G i) : Mod G w w' := ⟨h.os, h.tape, h.output, h.size, fun k hk hg => h.block k hk fun hf => hg (hG k hf)⟩
theorem Mod.alloc (h : Mod F a b) (o : Obj) : Mod F a (b.alloc o) := h.ext ((Ext.refl b).alloc o)
theorem Mod.drew (h : Mod F a b) : Mod F a b.drew := h.ext (Ext.refl b).drew
theorem Mod.drewN (h : Mod F a b) (n : Nat) : Mod F a (b.drewN n) := h.ext ((Ext.refl b).drewN n)
theorem Mod.setCell (h : Mod F a b) {p : Addr} (hp : F p.block ∨ a.heap.size ≤ p.block) (v : Value) : Mod F a (b.setCell p v) :=
  ⟨h.os, h.tape, h.output, Nat.le_trans h.size (by simp [World.setCell]), fun k hk hf => (Below.heap_setCell _ _ _ _ (fun e => by
    subst e
    exact hp.elim hf fun hl => absurd hk (by omega))).trans (h.block k hk hf)⟩
theorem Mod.setCells (h : Mod F a b) (g o : Nat) (vs : List Value) (hp : F g ∨ a.heap.size ≤ g) : Mod F a (b.setCells g o vs) := by
  induction vs generalizing b o with
  | nil => exact h
  | cons v r ih => exact ih (h.setCell (p := ⟨g, o, none⟩) hp v) (o + 1)
theorem Mod.grown {row : Option Nat} (h : Mod F a b) (hg : b.grownBy c row) (hr : ∀ k, row = some k → F k ∨ a.heap.size ≤ k) : Mod F a c :=
  ⟨hg.os.trans h.os, hg.tape.trans h.tape, hg.output.trans h.output, Nat.le_trans h.size hg.size, fun k hk hf =>
    (hg.block k (Nat.lt_of_lt_of_le hk h.size) (fun e => (hr k e.symm).elim hf fun hl => absurd hk (by omega))).trans (h.block k hk hf)⟩
/-- A call's own blocks alone were written: nothing that was there. -/
theorem Mod.to_ext (h : Mod F w w') (hF : ∀ i, F i → w.heap.size ≤ i) : Ext w w' := ⟨h.os, h.tape, h.output, h.size, fun k hk => h.block k hk fun hf => absurd (hF k hf) (by omega)⟩
/-- Since an earlier world: the blocks of F were made since. -/
theorem Below.mod {B : Nat} (h : Below B a b) (k : Mod F b c) (hB : B ≤ b.heap.size) (hF : ∀ i, F i → B ≤ i) : Below B a c :=
  h.trans ⟨k.os, k.tape, k.output, k.size, fun i hi => k.block i (by omega) fun hf => absurd (hF i hf) (by omega)⟩
/-- A slice that lies in none of the blocks of F. -/
def Off (F : Nat → Prop) (A : Option Addr) : Prop := ∀ p, A = some p → ¬ F p.block
theorem Bs.mod {B : Nat} {A : Option Addr} {n cp : Nat} {l : List Nat} (h : Bs w B A n cp l) (k : Mod F w w') (hB : B ≤ w.heap.size) (ho : Off F A) : Bs w' B A n cp l :=
  ⟨h.len, h.cap, h.most, ⟨h.rd.1, fun hn => by
    obtain ⟨g, o, e, hg, hc⟩ := h.rd.2 hn
    refine ⟨g, o, e, hg, fun j x hx => ?_⟩
    rw [← hc j x hx]
    exact World.cell?_of_block (a := ⟨g, o + j, none⟩) (k.block g (by omega) (ho _ e))⟩, h.nil_⟩
theorem By.mod {A : Option Addr} {n cp : Nat} {l : List Nat} (h : By w A n cp l) (k : Mod F w w') (ho : Off F A) : By w' A n cp l := (Bs.mod h k (Nat.le_refl _) ho).more k.size
theorem heap_mod {g : Nat} {o : Obj} (h : w.heap[g]? = some o) (k : Mod F w w') (hg : ¬ F g) : w'.heap[g]? = some o := (k.block g (Array.getElem?_eq_some_iff.1 h).1 hg).trans h
theorem own_mod {base e size n : Nat} {v : Value} {xs : List Value} (h : w.ownsRow base e size v n xs) (k : Mod F w w') (hv : ∀ i, v.ownBlock = some i → ¬ F i) : w'.ownsRow base e size v n xs := by
  refine ⟨h.1, ?_⟩
  rcases h.2 with h0 | ⟨g, cap, cur, rfl, hb, hg, h1⟩
  · exact .inl h0
  · exact .inr ⟨g, cap, cur, rfl, hb, heap_mod hg k (hv g rfl), h1⟩
end
end Go.Proofs.YtejejadbemkifaaDoor
