/-
  Plain facts on slots of a log: what was put last is told; what is hurt and seen to be is told to be corrupt.
  The contract of hurtSectors, as an iterator: those that are hurt come in order.
  The contracts of slices.Collect over the iterator of hurt sectors, and of Hurt.
  The contract of Place.
  The contract of the program's Where.
  The contract of Seen.
  Plain facts on logs: puts on a disk, one behind the other; what faults leave of their slots, if all that is hurt is seen.
  Plain facts on logs for the statements: what is told of an index, of all; puts in a row; puts that end anywhere.
-/
import Derived.Test.YtnlappoocffcpaaGreatDoorQ03
import Derived.Test.YtnlappoocffcpaaGreatDoorQ13
import Derived.Test.YtnlappoocffcpaaGreatDoorQ29
import Derived.RangeFuncNested
import Derived.RangeFuncBound
import Derived.RangeFuncCalls
import Derived.RangeFuncLeaves
import Derived.Shelf.Abstract
import Derived.Shelf.RegionOpen
import Derived.WalkKit
import Derived.OwnWalkIn
import Derived.TacticsInMore
import Derived.LoopNIn
import Derived.LoopIn
import Derived.RangeFuncBox
import Derived.Maps.AppendAt
import Derived.Deep.RegionHeld3
import Derived.Deep.MidRow
import Derived.Deep.QuietTactic
namespace Go.Proofs.YtnlappoocffcpaaGreatDoor
set_option maxRecDepth 100000
open Go
def LowF (i x y : Int) (c : CopL) : Prop := c = {} ∨ (c.st = 1 ∧ c.ix = i ∧ gtL x y c.bx c.yb) ∨ (c.st = 1 ∧ c.ix < i)
def SlH (j : Int) (o : Option (Int × Int × Ent)) (p : Rec) (f0 f1 : CopL) : Prop :=
  match o with
  | none => p = {} ∧ f0 = {} ∧ f1 = {}
  | some (x, y, e) => ∃ k : Int, (k = 0 ∨ k = 1) ∧ p = { st := 1, ix := j, bx := x, yb := y, wh := k } ∧ cop f0 f1 k = { st := 1, ix := j, bx := x, yb := y, e := e } ∧ LowF j x y (cop f0 f1 (1 - k))
theorem gt_irr (x y : Int) : ¬ gtL x y x y := by unfold gtL; omega
theorem low_cand {i x y : Int} {k : Int} {c : CopL} (h : LowF i x y c) : ¬ candL { st := 1, ix := i, bx := x, yb := y, wh := k } c i := by
  rintro ⟨⟨h1, h2⟩, h3⟩
  rcases h with rfl | ⟨_, _, h⟩ | ⟨_, h⟩
  · cases h1
  · exact h3 h
  · omega
theorem low_st {i x y : Int} {c : CopL} (h : LowF i x y c) : c.st ≤ 1 ∧ (c.st = 1 → c.ix ≤ i) := by
  rcases h with rfl | ⟨h1, h2, _⟩ | ⟨h1, h2⟩
  · exact ⟨by simp, fun h => by cases h⟩
  · exact ⟨by omega, fun _ => by omega⟩
  · exact ⟨by omega, fun _ => by omega⟩
theorem pickW_tf {a b h : Prop} [Decidable a] [Decidable b] [Decidable h] (ha : a) (hb : ¬ b) : pickW a b h = 0 := by unfold pickW; rw [if_neg (fun x => hb x.2), if_pos ha]
theorem pickW_ft {a b h : Prop} [Decidable a] [Decidable b] [Decidable h] (ha : ¬ a) (hb : b) : pickW a b h = 1 := by unfold pickW; rw [if_neg (fun x => ha x.1), if_neg ha, if_pos hb]
theorem pickW_ff {a b h : Prop} [Decidable a] [Decidable b] [Decidable h] (ha : ¬ a) (hb : ¬ b) : pickW a b h = -1 := by unfold pickW; rw [if_neg (fun x => ha x.1), if_neg ha, if_neg hb]
theorem where_cand0 {p : Rec} {f0 f1 : CopL} {i : Int} (hp : p.of i) (h0 : candL p f0 i) (h1 : ¬ candL p f1 i) : whereL p f0 f1 i = 0 := by
  unfold whereL
  rw [if_pos hp]
  split
  · exact pickW_tf h0 h1
  · exact pickW_tf h0 h1
theorem where_cand1 {p : Rec} {f0 f1 : CopL} {i : Int} (hp : p.of i) (h0 : ¬ candL p f0 i) (h1 : candL p f1 i) : whereL p f0 f1 i = 1 := by
  unfold whereL
  rw [if_pos hp]
  split
  · exact pickW_ft h0 h1
  · exact pickW_ft h0 h1
theorem new_cand {i x y k : Int} {e : Ent} {c : CopL} (h : c = { st := 1, ix := i, bx := x, yb := y, e := e }) : candL { st := 1, ix := i, bx := x, yb := y, wh := k } c i := by
  subst h
  exact ⟨⟨rfl, rfl⟩, gt_irr x y⟩
theorem SlH.where_ {i x y : Int} {e : Ent} {p : Rec} {f0 f1 : CopL} (h : SlH i (some (x, y, e)) p f0 f1) : ∃ k : Int, (k = 0 ∨ k = 1) ∧ whereL p f0 f1 i = k ∧ cop f0 f1 k = { st := 1, ix := i, bx := x, yb := y, e := e } := by
  obtain ⟨k, hk, rfl, hc, hl⟩ := h
  refine ⟨k, hk, ?_, hc⟩
  rcases hk with rfl | rfl
  · exact where_cand0 ⟨rfl, rfl⟩ (new_cand hc) (low_cand hl)
  · exact where_cand1 ⟨rfl, rfl⟩ (low_cand hl) (new_cand hc)
theorem SlH.told {i x y : Int} {e : Ent} {p : Rec} {f0 f1 : CopL} (h : SlH i (some (x, y, e)) p f0 f1) : classL p f0 f1 i = 3 ∧ repX p f0 f1 i = x ∧ repY p f0 f1 i = y ∧ repE p f0 f1 i = e := by
  obtain ⟨k, hk, hw, hc⟩ := h.where_
  have h0 : 0 ≤ whereL p f0 f1 i := by omega
  refine ⟨classL_three.2 h0, ?_, ?_, ?_⟩
  · unfold repX; rw [if_pos h0, hw, hc]
  · unfold repY; rw [if_pos h0, hw, hc]
  · unfold repE; rw [if_pos h0, hw, hc]
theorem SlH.most {j : Int} {o : Option (Int × Int × Ent)} {p : Rec} {f0 f1 : CopL} (h : SlH j o p f0 f1) : p.st ≤ 1 ∧ f0.st ≤ 1 ∧ f1.st ≤ 1 ∧ (p.st = 1 → p.ix ≤ j) ∧ (f0.st = 1 → f0.ix ≤ j) ∧ (f1.st = 1 → f1.ix ≤ j) ∧ (p.wh = 0 ∨ p.wh = 1) := by
  match o, h with
  | none, h =>
    obtain ⟨rfl, rfl, rfl⟩ := h
    exact ⟨by simp, by simp, by simp, (fun h => by cases h), (fun h => by cases h), (fun h => by cases h), .inl rfl⟩
  | some (x, y, e), h =>
    obtain ⟨k, hk, rfl, hc, hl⟩ := h
    have hl := low_st hl
    have h1 : (cop f0 f1 k).st ≤ 1 ∧ ((cop f0 f1 k).st = 1 → (cop f0 f1 k).ix ≤ j) := by rw [hc]; exact ⟨by simp, fun _ => by simp⟩
    rcases hk with rfl | rfl
    · exact ⟨by simp, h1.1, hl.1, fun _ => by simp, h1.2, hl.2, .inl rfl⟩
    · exact ⟨by simp, hl.1, h1.1, fun _ => by simp, hl.2, h1.2, .inr rfl⟩
theorem where_newer {i : Int} {p : Rec} {f0 f1 : CopL} (h0 : p.st ≤ 1) (hp : p.st = 1 → p.ix < i) (h1 : f0.st = 1 → f0.ix < i) (h2 : f1.st = 1 → f1.ix < i) : whereL p f0 f1 i = -1 ∧ ¬ p.of i ∧ ¬ beyL p f0 f1 i := by
  have hn : ¬ p.of i := fun h => by have := hp h.1; have := h.2; omega
  have hb : ¬ beyL p f0 f1 i := by
    rintro (⟨a, b⟩ | ⟨a, b⟩ | ⟨a, b⟩)
    · have := hp a; omega
    · have := h1 a; omega
    · have := h2 a; omega
  refine ⟨?_, hn, hb⟩
  unfold whereL
  rw [if_neg hn, if_neg (by rintro (h | h); exact hb h; have := h.1; omega)]
  exact pickW_ff (fun h => by have := h1 h.1; have := h.2; omega) (fun h => by have := h2 h.1; have := h.2; omega)
theorem absent_newer {i : Int} {p : Rec} {f0 f1 : CopL} (h0 : p.st ≤ 1) (hp : p.st = 1 → p.ix < i) (h1 : f0.st = 1 → f0.ix < i) (h2 : f1.st = 1 → f1.ix < i) (k1 : f0.st ≤ 1) (k2 : f1.st ≤ 1) : classL p f0 f1 i = 0 := by
  obtain ⟨a, b, c⟩ := where_newer h0 hp h1 h2
  unfold classL
  rw [if_neg (by omega), if_neg b, if_neg (by rintro (h | h); exact c h; have := h.1; omega), if_neg (by unfold badL; omega)]
theorem SlH.newer {i j : Int} {o : Option (Int × Int × Ent)} {p : Rec} {f0 f1 : CopL} (h : SlH j o p f0 f1) (hij : j < i) : classL p f0 f1 i = 0 := by
  obtain ⟨a, b, c, d, e, f, _⟩ := h.most
  exact absent_newer a (fun x => by have := d x; omega) (fun x => by have := e x; omega) (fun x => by have := f x; omega) b c
theorem SlH.put {i j x y : Int} {e : Ent} {o : Option (Int × Int × Ent)} {p : Rec} {f0 f1 : CopL} (h : SlH j o p f0 f1) (hc : o = none ∨ j < i ∨ (j = i ∧ ∀ a b c, o = some (a, b, c) → gtL x y a b)) :
    SlH i (some (x, y, e)) { st := 1, ix := i, bx := x, yb := y, wh := nextL p f0 f1 i } (if nextL p f0 f1 i = 0 then { st := 1, ix := i, bx := x, yb := y, e := e } else f0) (if nextL p f0 f1 i = 1 then { st := 1, ix := i, bx := x, yb := y, e := e } else f1) := by
  have hn := (nextL_two p f0 f1 i).1
  refine ⟨nextL p f0 f1 i, hn, rfl, ?_, ?_⟩
  · rcases hn with hn | hn <;> rw [hn] <;> simp [cop]
  · -- the frame that stays
    have stay : ∀ c, (c = f0 ∧ nextL p f0 f1 i = 1) ∨ (c = f1 ∧ nextL p f0 f1 i = 0) → LowF i x y c := by
      intro c hcc
      match o, h, hc with
      | none, h, _ =>
        obtain ⟨rfl, rfl, rfl⟩ := h
        rcases hcc with ⟨rfl, _⟩ | ⟨rfl, _⟩ <;> exact .inl rfl
      | some (a, b, d), h, hc =>
        by_cases hij : j < i
        · obtain ⟨_, u, v, _, q, r, _⟩ := h.most
          have hst : c.st ≤ 1 ∧ (c.st = 1 → c.ix < i) := by
            rcases hcc with ⟨rfl, _⟩ | ⟨rfl, _⟩
            · exact ⟨u, fun x => by have := q x; omega⟩
            · exact ⟨v, fun x => by have := r x; omega⟩
          by_cases h1 : c.st = 1
          · exact .inr (.inr ⟨h1, hst.2 h1⟩)
          · -- a frame of state 0 is blank
            obtain ⟨k, hk, _, hck, hl⟩ := h
            have : c = cop f0 f1 k ∨ c = cop f0 f1 (1 - k) := by
              rcases hk with rfl | rfl <;> rcases hcc with ⟨rfl, _⟩ | ⟨rfl, _⟩ <;> simp [cop]
            rcases this with hh | hh
            · rw [hh, hck] at h1; exact absurd rfl h1
            · rw [← hh] at hl
              rcases hl with hl | ⟨hl, _⟩ | ⟨hl, _⟩
              · exact .inl hl
              · exact absurd hl h1
              · exact absurd hl h1
        · have hji : j = i ∧ gtL x y a b := by
            rcases hc with hc | hc | ⟨hc, hg⟩
            · cases hc
            · exact absurd hc hij
            · exact ⟨hc, hg a b d rfl⟩
          obtain ⟨rfl, hg⟩ := hji
          obtain ⟨k, hk, hw, hck⟩ := h.where_
          have hnk : nextL p f0 f1 j = 1 - k := by unfold nextL; rw [hw, if_pos (by omega)]
          have : c = cop f0 f1 k := by
            rcases hk with rfl | rfl <;> rcases hcc with ⟨rfl, hq⟩ | ⟨rfl, hq⟩ <;> first | rfl | omega
          rw [this, hck]
          exact .inr (.inl ⟨rfl, rfl, hg⟩)
    rcases hn with hz | hz
    · have : cop (if nextL p f0 f1 i = 0 then { st := 1, ix := i, bx := x, yb := y, e := e } else f0) (if nextL p f0 f1 i = 1 then { st := 1, ix := i, bx := x, yb := y, e := e } else f1) (1 - nextL p f0 f1 i) = f1 := by rw [hz]; simp [cop]
      rw [this]
      exact stay f1 (.inr ⟨rfl, hz⟩)
    · have : cop (if nextL p f0 f1 i = 0 then { st := 1, ix := i, bx := x, yb := y, e := e } else f0) (if nextL p f0 f1 i = 1 then { st := 1, ix := i, bx := x, yb := y, e := e } else f1) (1 - nextL p f0 f1 i) = f0 := by rw [hz]; simp [cop]
      rw [this]
      exact stay f0 (.inl ⟨rfl, hz⟩)
end Go.Proofs.YtnlappoocffcpaaGreatDoor

namespace Go.Proofs.YtnlappoocffcpaaGreatDoor
set_option maxRecDepth 100000
open Go Go.RowKit Go.Shelf
attribute [local go_sem] Oper.semAt_some
theorem grown_of_ext {w w' : World} (h : Ext w w') : w.grownBy w' none := ⟨h.os, h.tape, h.output, h.size, fun k hk _ => h.block k hk⟩
theorem mod_cell {G : Nat → Prop} {w w' : World} (k : Mod G w w') {g i : Nat} {v : Value} (hg : ¬ G g) (h : w.cell? ⟨g, i, none⟩ = some v) : w'.cell? ⟨g, i, none⟩ = some v :=
  (World.cell?_of_block (a := ⟨g, i, none⟩) (k.block g (World.block_lt_of_cell? w _ h) hg)).trans h
theorem ext_of_cell {w w' : World} {g i : Nat} {v : Value} (h : Ext w w') (hc : w.cell? ⟨g, i, none⟩ = some v) : w'.cell? ⟨g, i, none⟩ = some v := (Below.cell h (p := ⟨g, i, none⟩) (World.block_lt_of_cell? w _ hc)).trans hc
theorem mod_put {G : Nat → Prop} {w W : World} (l : Nat) (o o' : Obj) (hG : ∀ k, w.heap.size ≤ k → G k) (hl : w.heap.size ≤ l) (_ : W.heap[l]? = some o) : Mod G W (W.putObj l o') :=
  (Mod.refl G W).grown (grownBy_putObj' W l o') (fun k e => by cases e; exact .inl (hG l hl))
end Go.Proofs.YtnlappoocffcpaaGreatDoor

namespace Go.Proofs.YtnlappoocffcpaaGreatDoor
set_option maxRecDepth 100000
open Go Go.RowKit Go.Shelf
attribute [local go_sem] Oper.semAt_some
end Go.Proofs.YtnlappoocffcpaaGreatDoor

namespace Go.Proofs.YtnlappoocffcpaaGreatDoor
set_option maxRecDepth 100000
open Go Go.RowKit Go.Shelf
attribute [local go_sem] Oper.semAt_some
end Go.Proofs.YtnlappoocffcpaaGreatDoor

namespace Go.Proofs.YtnlappoocffcpaaGreatDoor
set_option maxRecDepth 100000
open Go Go.RowKit
end Go.Proofs.YtnlappoocffcpaaGreatDoor

namespace Go.Proofs.YtnlappoocffcpaaGreatDoor
set_option maxRecDepth 100000
open Go Go.RowKit Go.Shelf
attribute [local go_sem] Oper.semAt_some
end Go.Proofs.YtnlappoocffcpaaGreatDoor

namespace Go.Proofs.YtnlappoocffcpaaGreatDoor
set_option maxRecDepth 100000
def SlD (m : DM) (r : Int) (q : Nat) (j : Int) (o : Option (Int × Int × Ent)) : Prop := SlH j o (m.recM r (q : Int)) (m.copM r ((2 * q : Nat) : Int)) (m.copM r ((2 * q + 1 : Nat) : Int))
def slT (q t : Nat) : Prop := t = sR q ∨ t = sF (2 * q) ∨ t = sF (2 * q) + 1 ∨ t = sF (2 * q + 1) ∨ t = sF (2 * q + 1) + 1
theorem SlD.new {q : Nat} (hq : q < 24) (r j : Int) : SlD (DM.new 156) r q j none := ⟨new_recM hq r, new_copM (by omega) r, new_copM (by omega) r⟩
theorem SlD.of_same {m m' : DM} {pw pw' : Int} (h : CD m pw) (h' : CD m' pw') {q : Nat} (hq : q < 24) {r j : Int} {o : Option (Int × Int × Ent)} (ht : ∀ t, slT q t → m'.hold t = m.hold t) (hs : SlD m r q j o) : SlD m' r q j o := by
  obtain ⟨a, b, c⟩ := slot_same h h' hq r ht
  unfold SlD
  rw [a, b, c]
  exact hs
theorem mayW3 {r inc i : Int} {q : Nat} (hr : 0 ≤ r ∧ r ≤ 6) (hi : 0 ≤ i ∧ i ≤ 1099511627776) (hc : 1 ≤ inc ∧ inc ≤ 1099511627776) (hq : q < 24) : mayB r 3 (q : Int) i inc = true := by
  unfold mayB
  rw [decide_eq_true_iff]
  simp [plc]
  omega
theorem mayW4 {r inc i : Int} {p : Nat} (hr : 0 ≤ r ∧ r ≤ 6) (hi : 0 ≤ i ∧ i ≤ 1099511627776) (hc : 1 ≤ inc ∧ inc ≤ 1099511627776) (hp : p < 48) : mayB r 4 (p : Int) i inc = true := by
  unfold mayB
  rw [decide_eq_true_iff]
  simp [plc]
  omega
theorem nextW_two (m : DM) (r i : Int) : m.nextW r i = 0 ∨ m.nextW r i = 1 := (nextL_two _ _ _ _).1
theorem nextW_of {m : DM} {r i : Int} {q : Nat} (hq : placeW i = (q : Int)) : m.nextW r i = nextL (m.recM r (q : Int)) (m.copM r ((2 * q : Nat) : Int)) (m.copM r ((2 * q + 1 : Nat) : Int)) i := by
  unfold DM.nextW
  rw [hq, show 2 * (q : Int) = ((2 * q : Nat) : Int) from by omega, show ((2 * q : Nat) : Int) + 1 = ((2 * q + 1 : Nat) : Int) from by omega]
theorem SlD.put {m : DM} (h : CD m (-1)) {r inc i x y : Int} {e : Ent} {q : Nat} (hq : placeW i = (q : Int)) (hq24 : q < 24) {j : Int} {o : Option (Int × Int × Ent)} (hs : SlD m r q j o) (hr : 0 ≤ r ∧ r ≤ 6) (hi : 0 ≤ i ∧ i ≤ 1099511627776) (hc : 1 ≤ inc ∧ inc ≤ 1099511627776) (hb : balE x y = true) (he : enOk e = true)
    (hcon : o = none ∨ j < i ∨ (j = i ∧ ∀ a b c, o = some (a, b, c) → gtL x y a b)) :
    ∃ m', m.putW r inc i x y e = (0, m') ∧ CD m' (-1) ∧ (NInv m → NInv m') ∧ SlD m' r q i (some (x, y, e)) ∧ ∀ q', q' < 24 → q' ≠ q → ∀ t, slT q' t → m'.hold t = m.hold t := by
  have hk := nextW_two m r i
  have hkn := nextW_of (m := m) (r := r) hq
  obtain ⟨p, hp, hp48, hpc⟩ : ∃ p : Nat, 2 * (q : Int) + m.nextW r i = (p : Int) ∧ p < 48 ∧ ((p = 2 * q ∧ m.nextW r i = 0) ∨ (p = 2 * q + 1 ∧ m.nextW r i = 1)) := by
    rcases hk with hk | hk
    · exact ⟨2 * q, by omega, by omega, .inl ⟨rfl, hk⟩⟩
    · exact ⟨2 * q + 1, by omega, by omega, .inr ⟨rfl, hk⟩⟩
  have m3 := mayW3 (q := q) hr hi hc hq24
  have m4 := mayW4 (p := p) hr hi hc hp48
  have hrb : recB x y (m.nextW r i) = true := recB_iff.2 ⟨balE_iff.1 hb, hk⟩
  obtain ⟨s1, s2, sp⟩ := frmW_sects (x := x) (y := y) (e := e) m4 hb he
  have s3 := recW_sect (x := x) (y := y) m3 hrb
  obtain ⟨m', e1, c1, n1, g1⟩ := h.putK hq24 hp48 (k := m.nextW r i) (x := x) (y := y) (e := e) hp s1 s2 s3
  have hput : m.putW r inc i x y e = (0, m') := by unfold DM.putW; rw [hq]; exact e1
  refine ⟨m', hput, c1, n1, ?_, fun q' hq' hne t ht => ?_⟩
  · -- what is read then
    have hrec : m'.recM r (q : Int) = { st := 1, ix := i, bx := x, yb := y, wh := m.nextW r i } := by
      rw [c1.recM hq24, g1, if_pos rfl]
      exact recW_back m3 hb hk
    have hnew : m'.copM r (p : Int) = { st := 1, ix := i, bx := x, yb := y, e := e } := by
      rw [c1.copM hp48, g1, g1, if_neg (by unfold sF sR; omega), if_neg (by omega), if_pos rfl, if_neg (by unfold sF sR; omega), if_pos rfl, sp]
      exact frmW_back m4 hb he
    have hold : ∀ p', p' < 48 → p' ≠ p → m'.copM r (p' : Int) = m.copM r (p' : Int) := fun p' hp' hne => by
      rw [c1.copM hp', h.copM hp', g1, g1]
      rw [if_neg (by unfold sF sR; omega), if_neg (by unfold sF; omega), if_neg (by unfold sF; omega), if_neg (by unfold sF sR; omega), if_neg (by unfold sF; omega), if_neg (by unfold sF; omega)]
    have := SlH.put (i := i) (x := x) (y := y) (e := e) hs hcon
    rw [← hkn] at this
    unfold SlD
    rw [hrec]
    rcases hpc with ⟨rfl, hz⟩ | ⟨rfl, hz⟩
    · rw [hnew, hold (2 * q + 1) (by omega) (by omega)]
      rw [hz] at this ⊢
      simpa using this
    · rw [hnew, hold (2 * q) (by omega) (by omega)]
      rw [hz] at this ⊢
      simpa using this
  · have hf := putT_far (p := p) hq24 hq' hne (by omega) ht
    unfold putT at hf
    rw [g1 t, if_neg (fun e => hf (.inl e)), if_neg (fun e => hf (.inr (.inr e))), if_neg (fun e => hf (.inr (.inl e)))]
end Go.Proofs.YtnlappoocffcpaaGreatDoor

namespace Go.Proofs.YtnlappoocffcpaaGreatDoor
set_option maxRecDepth 100000
structure Rpt where
  ix : Int := 0
  st : Nat := 0
  x : Int := 0
  y : Int := 0
  e : Ent := {}
def DM.clsW (m : DM) (r i : Int) : Nat := classL (m.recM r (placeW i)) (m.copM r (2 * placeW i)) (m.copM r (2 * placeW i + 1)) i
def stateW (p : Rec) (f0 f1 : CopL) (i : Int) : Nat := if 0 ≤ whereL p f0 f1 i then 2 else if p.of i then 3 else if beyL p f0 f1 i ∨ (p.st = 2 ∧ badL f0 f1) then 4 else 1
def rptOf (p : Rec) (f0 f1 : CopL) (i : Int) : Rpt := ⟨i, stateW p f0 f1 i, repX p f0 f1 i, repY p f0 f1 i, repE p f0 f1 i⟩
def DM.rptW (m : DM) (r i : Int) : Rpt := rptOf (m.recM r (placeW i)) (m.copM r (2 * placeW i)) (m.copM r (2 * placeW i + 1)) i
def DM.inW (m : DM) (r i : Int) : Bool := decide (m.clsW r i = 3 ∨ m.clsW r i = 2)
def DM.allTo (m : DM) (r snap : Int) (n : Nat) : List Rpt := (((List.range n).map fun k => snap + 1 + ((k : Nat) : Int)).filter (m.inW r)).map (m.rptW r)
theorem allTo_succ (m : DM) (r snap : Int) (n : Nat) : m.allTo r snap (n + 1) = if m.inW r (snap + 1 + (n : Int)) = true then m.allTo r snap n ++ [m.rptW r (snap + 1 + (n : Int))] else m.allTo r snap n := by
  unfold DM.allTo
  rw [List.range_succ, List.map_append, List.filter_append, List.map_append]
  split
  · rename_i h; simp [h]
  · rename_i h; simp [h]
theorem clsW_of {m : DM} {r i : Int} {q : Nat} (hq : placeW i = (q : Int)) : m.clsW r i = classL (m.recM r (q : Int)) (m.copM r ((2 * q : Nat) : Int)) (m.copM r ((2 * q + 1 : Nat) : Int)) i := by
  unfold DM.clsW
  rw [hq, show 2 * (q : Int) = ((2 * q : Nat) : Int) from by omega, show ((2 * q : Nat) : Int) + 1 = ((2 * q + 1 : Nat) : Int) from by omega]
theorem rptW_of {m : DM} {r i : Int} {q : Nat} (hq : placeW i = (q : Int)) : m.rptW r i = rptOf (m.recM r (q : Int)) (m.copM r ((2 * q : Nat) : Int)) (m.copM r ((2 * q + 1 : Nat) : Int)) i := by
  unfold DM.rptW
  rw [hq, show 2 * (q : Int) = ((2 * q : Nat) : Int) from by omega, show ((2 * q : Nat) : Int) + 1 = ((2 * q + 1 : Nat) : Int) from by omega]
theorem rpt_told {p : Rec} {f0 f1 : CopL} {i x y : Int} {e : Ent} (hc : classL p f0 f1 i = 3) (hx : repX p f0 f1 i = x) (hy : repY p f0 f1 i = y) (he : repE p f0 f1 i = e) : rptOf p f0 f1 i = ⟨i, 2, x, y, e⟩ := by
  unfold rptOf stateW
  rw [if_pos (classL_three.1 hc), hx, hy, he]
def lastQ (q N : Nat) : Nat := if N ≤ q then 0 else q + 1 + 24 * ((N - 1 - q) / 24)
def noopE : Ent := { k := 1 }
def oQ (q N : Nat) : Option (Int × Int × Ent) := if N ≤ q then none else some ((lastQ q N : Nat), 0, noopE)
structure RInv (m : DM) (N : Nat) : Prop where
  cd : CD m (-1)
  sl : ∀ q, q < 24 → SlD m 0 q (lastQ q N : Nat) (oQ q N)
theorem RInv.new : RInv (DM.new 156) 0 := ⟨CD.new, fun q hq => by
  have : oQ q 0 = none := if_pos (Nat.zero_le _)
  rw [this]
  exact SlD.new hq 0 _⟩
theorem lastQ_far {q N : Nat} (h : q ≠ N % 24) (hq : q < 24) : lastQ q (N + 1) = lastQ q N ∧ oQ q (N + 1) = oQ q N := by
  have hl : lastQ q (N + 1) = lastQ q N := by
    unfold lastQ
    by_cases h1 : N ≤ q
    · have : N ≠ q := fun e => h (by rw [e]; omega)
      rw [if_pos (by omega), if_pos h1]
    · rw [if_neg (by omega), if_neg h1]
      omega
  refine ⟨hl, ?_⟩
  unfold oQ
  rw [hl]
  by_cases h1 : N ≤ q
  · have : N ≠ q := fun e => h (by rw [e]; omega)
    rw [if_pos (by omega), if_pos h1]
  · rw [if_neg (by omega), if_neg h1]
theorem noop_ok : enOk noopE = true := by decide
theorem lastQ_now (N : Nat) : lastQ (N % 24) (N + 1) = N + 1 := by
  unfold lastQ
  rw [if_neg (by omega)]
  omega
theorem RInv.put {m : DM} {N : Nat} (h : RInv m N) (hN : N < 1099511627776) {inc : Int} (hc : 1 ≤ inc ∧ inc ≤ 1099511627776) : ∃ m', m.putW 0 inc ((N + 1 : Nat) : Int) ((N + 1 : Nat) : Int) 0 noopE = (0, m') ∧ RInv m' (N + 1) := by
  have hq : placeW ((N + 1 : Nat) : Int) = ((N % 24 : Nat) : Int) := by unfold placeW; omega
  have hq24 : N % 24 < 24 := by omega
  obtain ⟨m', e1, c1, _, s1, g1⟩ := SlD.put h.cd (inc := inc) (x := ((N + 1 : Nat) : Int)) (y := 0) (e := noopE) hq hq24 (h.sl _ hq24) (by omega) (by omega) hc (balE_iff.2 (by omega)) noop_ok (by
    unfold oQ lastQ
    by_cases h1 : N ≤ N % 24
    · rw [if_pos h1]; exact .inl rfl
    · rw [if_neg h1, if_neg h1]; exact .inr (.inl (by omega)))
  refine ⟨m', e1, c1, fun q hql => ?_⟩
  by_cases hqq : q = N % 24
  · subst hqq
    rw [lastQ_now]
    have : oQ (N % 24) (N + 1) = some (((N + 1 : Nat) : Int), 0, noopE) := by unfold oQ; rw [if_neg (by omega), lastQ_now]
    rw [this]
    exact s1
  · obtain ⟨a, b⟩ := lastQ_far hqq hql
    rw [a, b]
    exact SlD.of_same h.cd c1 hql (g1 q hql hqq) (h.sl q hql)
theorem RInv.told {m : DM} {N i : Nat} (h : RInv m N) (h1 : 1 ≤ i) (h2 : i ≤ N) (h3 : N < i + 24) : m.clsW 0 (i : Int) = 3 ∧ m.rptW 0 (i : Int) = ⟨(i : Int), 2, (i : Int), 0, noopE⟩ := by
  have hq : placeW (i : Int) = (((i - 1) % 24 : Nat) : Int) := by unfold placeW; omega
  have hs := h.sl ((i - 1) % 24) (by omega)
  have hl : lastQ ((i - 1) % 24) N = i := by unfold lastQ; rw [if_neg (by omega)]; omega
  have ho : oQ ((i - 1) % 24) N = some ((i : Int), 0, noopE) := by unfold oQ; rw [hl, if_neg (by omega)]
  rw [hl, ho] at hs
  obtain ⟨a, b, c, d⟩ := SlH.told hs
  rw [clsW_of hq, rptW_of hq]
  exact ⟨a, rpt_told a b c d⟩
theorem RInv.absent {m : DM} {N i : Nat} (h : RInv m N) (h1 : 1 ≤ i) (h2 : N < i) : m.clsW 0 (i : Int) = 0 := by
  have hq : placeW (i : Int) = (((i - 1) % 24 : Nat) : Int) := by unfold placeW; omega
  have hs := h.sl ((i - 1) % 24) (by omega)
  rw [clsW_of hq]
  exact SlH.newer hs (by unfold lastQ; split <;> omega)
theorem RInv.all_ {m : DM} {N snap : Nat} (h : RInv m N) (h1 : snap ≤ N) (h2 : N ≤ snap + 24) : ∀ n : Nat, n ≤ 24 → m.allTo 0 (snap : Int) n = (List.range (min n (N - snap))).map fun k => (⟨((snap + 1 + k : Nat) : Int), 2, ((snap + 1 + k : Nat) : Int), 0, noopE⟩ : Rpt) := by
  intro n
  induction n with
  | zero => intro _; rfl
  | succ n ih =>
    intro hn
    rw [allTo_succ, ih (by omega), show ((snap : Nat) : Int) + 1 + (n : Int) = ((snap + 1 + n : Nat) : Int) from by omega]
    by_cases hc : snap + 1 + n ≤ N
    · obtain ⟨a, b⟩ := h.told (i := snap + 1 + n) (by omega) hc (by omega)
      have hin : m.inW 0 ((snap + 1 + n : Nat) : Int) = true := by unfold DM.inW; rw [a]; rfl
      rw [if_pos hin, b, show min (n + 1) (N - snap) = n + 1 from by omega, show min n (N - snap) = n from by omega, List.range_succ, List.map_append]
      rfl
    · have a := h.absent (i := snap + 1 + n) (by omega) (by omega)
      have hin : ¬ m.inW 0 ((snap + 1 + n : Nat) : Int) = true := by unfold DM.inW; rw [a]; decide
      rw [if_neg hin, show min (n + 1) (N - snap) = min n (N - snap) from by omega]
structure PutA where
  at_ : Nat := 0
  x : Int := 0
  y : Int := 0
  e : Ent := {}
end Go.Proofs.YtnlappoocffcpaaGreatDoor
