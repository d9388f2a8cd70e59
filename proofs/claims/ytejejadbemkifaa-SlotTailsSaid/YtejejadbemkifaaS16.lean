/-
  Plain facts on slots, without any program: puts that end anywhere leave a slot as it was, or intact by the new ballot.
  Regions walked by hand: two loads that may come up in either order, though what they read is written later; whole stores; results that lie in two cells.
  What a put's tail stands on.
  What SlotTails keeps: the record, the two frames, the greatest ballot that was acknowledged, each in a block of the call's own.
-/
import Derived.Test.YtejejadbemkifaaS02
import Derived.Test.YtejejadbemkifaaS04
import Derived.Test.YtejejadbemkifaaS15
import Derived.Deep.RegionHeld
namespace Go.Proofs.Ytejejadbemkifaa
set_option maxRecDepth 100000
open Go

/-- What a put leaves of a frame; how far it came: 1 its frame is torn, 2 it is there, 3 the record names it, too. -/
def newC (i r : Int) (how : Nat) : Cop := if how = 1 then { st := 2 } else { st := 1, ix := i, bx := r, yb := 1, e := { k := 1 } }
def tailF0 (p : Rec) (f0 f1 : Cop) (i r : Int) (how : Nat) : Cop := if how ≠ 0 ∧ nextL p f0 f1 i = 0 then newC i r how else f0
def tailF1 (p : Rec) (f0 f1 : Cop) (i r : Int) (how : Nat) : Cop := if how ≠ 0 ∧ nextL p f0 f1 i = 1 then newC i r how else f1
def tailP (p : Rec) (f0 f1 : Cop) (i r : Int) (how : Nat) : Rec := if how = 3 then { st := 1, ix := i, bx := r, yb := 1, wh := nextL p f0 f1 i } else p
theorem newC_one (i r : Int) : newC i r 1 = { st := 2 } := rfl
theorem newC_more {i r : Int} {how : Nat} (h : how ≠ 1) : newC i r how = { st := 1, ix := i, bx := r, yb := 1, e := { k := 1 } } := if_neg h
theorem not_of_two {i : Int} : ¬ Cop.of { st := 2 } i := fun h => by have := h.1; cases this
theorem of_new (i r : Int) : Cop.of { st := 1, ix := i, bx := r, yb := 1, e := { k := 1 } } i := ⟨rfl, rfl⟩
/-- Frames, one of which is written anew. -/
theorem TInv.tail {i r r' a : Int} {p : Rec} {f0 f1 : Cop} {how : Nat} (h : TInv i r a p f0 f1) (hr : r ≤ r') (h2 : 2 ≤ r') :
    TInv i r' (if how = 3 then r' else a) (tailP p f0 f1 i r' how) (tailF0 p f0 f1 i r' how) (tailF1 p f0 f1 i r' how) := by
  have h3' := h.a3
  have g3' := h.b3
  have hq1 := h.q1
  by_cases h0 : how = 0
  · subst h0
    unfold tailP tailF0 tailF1
    simp only [if_neg (show ¬ (0 = 3) by omega), ne_eq, not_true, false_and, if_false]
    refine ⟨h.p1, h.p2, h.p3, h.a1, h.a2, fun x => ?_, h.b1, h.b2, fun x => ?_, fun x => ?_, h.q2, h.q3⟩
    · have := h3' x; omega
    · have := g3' x; omega
    · have := hq1 x; omega
  have hn := (nextL_two p f0 f1 i).1
  -- the frame that is kept, if the slot was intact, is the one by which it was
  have keep0 : nextL p f0 f1 i = 0 → p.of i → f1.of i ∧ p.bx ≤ f1.bx := fun hz hp => by
    rcases h.where_ with ⟨_, n, _⟩ | ⟨e, _⟩ | ⟨e, x, y, _⟩
    · exact absurd hp n
    · exact absurd hz (by unfold nextL; rw [e]; simp)
    · exact ⟨x, y hp⟩
  have keep1 : nextL p f0 f1 i = 1 → p.of i → f0.of i ∧ p.bx ≤ f0.bx := fun hz hp => by
    rcases h.where_ with ⟨_, n, _⟩ | ⟨e, x, y, _⟩ | ⟨e, _⟩
    · exact absurd hp n
    · exact ⟨x, y hp⟩
    · exact absurd hz (by unfold nextL; rw [e]; simp)
  by_cases h1 : how = 1
  · subst h1
    rcases hn with hz | hz
    · have e0 : tailF0 p f0 f1 i r' 1 = { st := 2 } := by unfold tailF0; rw [if_pos ⟨by omega, hz⟩]; rfl
      have e1 : tailF1 p f0 f1 i r' 1 = f1 := by unfold tailF1; rw [if_neg (by omega)]
      have ep : tailP p f0 f1 i r' 1 = p := rfl
      rw [e0, e1, ep, if_neg (by omega)]
      refine ⟨h.p1, h.p2, h.p3, by simp, fun x => by simp at x, fun x => absurd x not_of_two, h.b1, h.b2, fun x => ?_, fun x => ?_, fun x => .inr (keep0 hz x), h.q3⟩
      · have := g3' x; omega
      · have := hq1 x; omega
    · have e0 : tailF0 p f0 f1 i r' 1 = f0 := by unfold tailF0; rw [if_neg (by omega)]
      have e1 : tailF1 p f0 f1 i r' 1 = { st := 2 } := by unfold tailF1; rw [if_pos ⟨by omega, hz⟩]; rfl
      have ep : tailP p f0 f1 i r' 1 = p := rfl
      rw [e0, e1, ep, if_neg (by omega)]
      refine ⟨h.p1, h.p2, h.p3, h.a1, h.a2, fun x => ?_, by simp, fun x => by simp at x, fun x => absurd x not_of_two, fun x => ?_, fun x => .inl (keep1 hz x), h.q3⟩
      · have := h3' x; omega
      · have := hq1 x; omega
  · by_cases hh3 : how = 3
    · have ep : tailP p f0 f1 i r' how = { st := 1, ix := i, bx := r', yb := 1, wh := nextL p f0 f1 i } := if_pos hh3
      rw [if_pos hh3]
      rcases hn with hz | hz
      · have e0 : tailF0 p f0 f1 i r' how = { st := 1, ix := i, bx := r', yb := 1, e := { k := 1 } } := by unfold tailF0; rw [if_pos ⟨h0, hz⟩, newC_more h1]
        have e1 : tailF1 p f0 f1 i r' how = f1 := by unfold tailF1; rw [if_neg (by omega)]
        rw [e0, e1, ep, hz]
        refine ⟨by simp, fun _ => by simp, .inl rfl, by simp, fun _ => by simp, fun _ => ⟨rfl, h2, by simp⟩, h.b1, h.b2, fun x => ?_, fun _ => ⟨rfl, h2, by simp, rfl⟩, fun _ => .inl ⟨of_new i r', by simp⟩, fun x => absurd ⟨rfl, rfl⟩ x⟩
        have := g3' x; omega
      · have e0 : tailF0 p f0 f1 i r' how = f0 := by unfold tailF0; rw [if_neg (by omega)]
        have e1 : tailF1 p f0 f1 i r' how = { st := 1, ix := i, bx := r', yb := 1, e := { k := 1 } } := by unfold tailF1; rw [if_pos ⟨h0, hz⟩, newC_more h1]
        rw [e0, e1, ep, hz]
        refine ⟨by simp, fun _ => by simp, .inr rfl, h.a1, h.a2, fun x => ?_, by simp, fun _ => by simp, fun _ => ⟨rfl, h2, by simp⟩, fun _ => ⟨rfl, h2, by simp, rfl⟩, fun _ => .inr ⟨of_new i r', by simp⟩, fun x => absurd ⟨rfl, rfl⟩ x⟩
        have := h3' x; omega
    · have ep : tailP p f0 f1 i r' how = p := if_neg hh3
      rw [if_neg hh3]
      rcases hn with hz | hz
      · have e0 : tailF0 p f0 f1 i r' how = { st := 1, ix := i, bx := r', yb := 1, e := { k := 1 } } := by unfold tailF0; rw [if_pos ⟨h0, hz⟩, newC_more h1]
        have e1 : tailF1 p f0 f1 i r' how = f1 := by unfold tailF1; rw [if_neg (by omega)]
        rw [e0, e1, ep]
        refine ⟨h.p1, h.p2, h.p3, by simp, fun _ => by simp, fun _ => ⟨rfl, h2, by simp⟩, h.b1, h.b2, fun x => ?_, fun x => ?_, fun x => .inr (keep0 hz x), h.q3⟩
        · have := g3' x; omega
        · have := hq1 x; omega
      · have e0 : tailF0 p f0 f1 i r' how = f0 := by unfold tailF0; rw [if_neg (by omega)]
        have e1 : tailF1 p f0 f1 i r' how = { st := 1, ix := i, bx := r', yb := 1, e := { k := 1 } } := by unfold tailF1; rw [if_pos ⟨h0, hz⟩, newC_more h1]
        rw [e0, e1, ep]
        refine ⟨h.p1, h.p2, h.p3, h.a1, h.a2, fun x => ?_, by simp, fun _ => by simp, fun _ => ⟨rfl, h2, by simp⟩, fun x => ?_, fun x => .inl (keep1 hz x), h.q3⟩
        · have := h3' x; omega
        · have := hq1 x; omega
/-- What the slot is then, told by what it was. -/
theorem TInv.says {i r r' a : Int} {p : Rec} {f0 f1 : Cop} {how : Nat} (h : TInv i r a p f0 f1) (hr : r ≤ r') (h2 : 2 ≤ r') :
    (whereL (tailP p f0 f1 i r' how) (tailF0 p f0 f1 i r' how) (tailF1 p f0 f1 i r' how) i < 0 → (if how = 3 then r' else a) = 0 ∧ whereL p f0 f1 i < 0) ∧
    (0 ≤ whereL (tailP p f0 f1 i r' how) (tailF0 p f0 f1 i r' how) (tailF1 p f0 f1 i r' how) i →
      repY (tailP p f0 f1 i r' how) (tailF0 p f0 f1 i r' how) (tailF1 p f0 f1 i r' how) i = 1 ∧
      (if how = 3 then r' else a) ≤ repX (tailP p f0 f1 i r' how) (tailF0 p f0 f1 i r' how) (tailF1 p f0 f1 i r' how) i ∧
      (repX (tailP p f0 f1 i r' how) (tailF0 p f0 f1 i r' how) (tailF1 p f0 f1 i r' how) i = r' ∨
        (0 ≤ whereL p f0 f1 i ∧ repY p f0 f1 i = 1 ∧ repX (tailP p f0 f1 i r' how) (tailF0 p f0 f1 i r' how) (tailF1 p f0 f1 i r' how) i = repX p f0 f1 i))) := by
  have hT := h.tail (how := how) hr h2
  have hn := (nextL_two p f0 f1 i).1
  generalize hP : tailP p f0 f1 i r' how = P at *
  generalize hF0 : tailF0 p f0 f1 i r' how = F0 at *
  generalize hF1 : tailF1 p f0 f1 i r' how = F1 at *
  have hF0' : (F0 = f0) ∨ (nextL p f0 f1 i = 0 ∧ (F0 = { st := 2 } ∨ (F0.of i ∧ F0.bx = r'))) := by
    rw [← hF0]
    unfold tailF0
    split
    · rename_i hc
      refine .inr ⟨hc.2, ?_⟩
      by_cases h1 : how = 1
      · subst h1; exact .inl rfl
      · rw [newC_more h1]; exact .inr ⟨of_new i r', rfl⟩
    · exact .inl rfl
  have hF1' : (F1 = f1) ∨ (nextL p f0 f1 i = 1 ∧ (F1 = { st := 2 } ∨ (F1.of i ∧ F1.bx = r'))) := by
    rw [← hF1]
    unfold tailF1
    split
    · rename_i hc
      refine .inr ⟨hc.2, ?_⟩
      by_cases h1 : how = 1
      · subst h1; exact .inl rfl
      · rw [newC_more h1]; exact .inr ⟨of_new i r', rfl⟩
    · exact .inl rfl
  have nx : ∀ w, whereL p f0 f1 i = w → 0 ≤ w → nextL p f0 f1 i = 1 - w := fun w hw h0 => by unfold nextL; rw [hw, if_pos h0]
  have rp0 : ∀ (P : Rec) (F0 F1 : Cop), whereL P F0 F1 i = 0 → repX P F0 F1 i = F0.bx ∧ repY P F0 F1 i = F0.yb := fun P F0 F1 e => by unfold repX repY cop; rw [e]; simp
  have rp1 : ∀ (P : Rec) (F0 F1 : Cop), whereL P F0 F1 i = 1 → repX P F0 F1 i = F1.bx ∧ repY P F0 F1 i = F1.yb := fun P F0 F1 e => by unfold repX repY cop; rw [e]; simp
  have acked : ∀ x : Int, (P.of i → P.bx ≤ x) → 2 ≤ x → (if how = 3 then r' else a) ≤ x := fun x hx h2x => by
    by_cases hp : P.of i
    · have := (hT.q1 hp).2.2.2
      have := hx hp
      omega
    · have := hT.q3 hp
      omega
  constructor
  · intro hneg
    rcases hT.where_ with ⟨e, np, n0, n1⟩ | ⟨e, _⟩ | ⟨e, _⟩
    · refine ⟨hT.q3 np, ?_⟩
      rcases h.where_ with ⟨e', _⟩ | ⟨e', x, _⟩ | ⟨e', x, _⟩
      · omega
      · exfalso
        have := nx 0 e' (by omega)
        rcases hF0' with hh | ⟨hh, _⟩
        · rw [hh] at n0; exact n0 x
        · omega
      · exfalso
        have := nx 1 e' (by omega)
        rcases hF1' with hh | ⟨hh, _⟩
        · rw [hh] at n1; exact n1 x
        · omega
    · omega
    · omega
  · intro hpos
    rcases hT.where_ with ⟨e, _⟩ | ⟨e, x, y, z⟩ | ⟨e, x, y, z⟩
    · omega
    · obtain ⟨q1, q2⟩ := rp0 P F0 F1 e
      obtain ⟨m1, m2, m3⟩ := hT.a3 x
      rw [q1, q2]
      refine ⟨m1, acked _ y m2, ?_⟩
      rcases hF0' with hh | ⟨hh, hh2⟩
      · -- the frame was there already
        rw [hh] at x z ⊢
        rcases h.where_ with ⟨e', _, n0, _⟩ | ⟨e', x', y', z'⟩ | ⟨e', x', y', z'⟩
        · exact absurd x n0
        · obtain ⟨t1, t2⟩ := rp0 p f0 f1 e'
          exact .inr ⟨by omega, by rw [t2]; exact (h.a3 x').1, t1.symm⟩
        · obtain ⟨t1, t2⟩ := rp1 p f0 f1 e'
          have hn1 := nx 1 e' (by omega)
          have hF : F1 = f1 := by
            rcases hF1' with hh | ⟨hh, _⟩
            · exact hh
            · omega
          rw [hF] at z
          have := z x'
          have := z' x
          exact .inr ⟨by omega, by rw [t2]; exact (h.b3 x').1, by rw [t1]; omega⟩
      · rcases hh2 with hh2 | hh2
        · rw [hh2] at x; exact absurd x not_of_two
        · exact .inl hh2.2
    · obtain ⟨q1, q2⟩ := rp1 P F0 F1 e
      obtain ⟨m1, m2, m3⟩ := hT.b3 x
      rw [q1, q2]
      refine ⟨m1, acked _ y m2, ?_⟩
      rcases hF1' with hh | ⟨hh, hh2⟩
      · rw [hh] at x z ⊢
        rcases h.where_ with ⟨e', _, _, n1⟩ | ⟨e', x', y', z'⟩ | ⟨e', x', y', z'⟩
        · exact absurd x n1
        · obtain ⟨t1, t2⟩ := rp0 p f0 f1 e'
          have hn1 := nx 0 e' (by omega)
          have hF : F0 = f0 := by
            rcases hF0' with hh | ⟨hh, _⟩
            · exact hh
            · omega
          rw [hF] at z
          have := z x'
          have := z' x
          exact .inr ⟨by omega, by rw [t2]; exact (h.a3 x').1, by rw [t1]; omega⟩
        · obtain ⟨t1, t2⟩ := rp1 p f0 f1 e'
          exact .inr ⟨by omega, by rw [t2]; exact (h.b3 x').1, t1.symm⟩
      · rcases hh2 with hh2 | hh2
        · rw [hh2] at x; exact absurd x not_of_two
        · exact .inl hh2.2
/-- Where the puts begin: nothing stood there, or another, lesser index. -/
theorem TInv.blank (i : Int) : TInv i 2 0 {} {} {} := by
  have n0 : ¬ Cop.of {} i := fun h => by have := h.1; cases this
  have np : ¬ Rec.of {} i := fun h => by have := h.1; cases this
  exact ⟨by simp, fun x => by simp at x, .inl rfl, by simp, fun x => by simp at x, fun x => absurd x n0, by simp, fun x => by simp at x, fun x => absurd x n0, fun x => absurd x np, fun x => absurd x np, fun _ => rfl⟩
theorem TInv.older {i : Int} (e : Ent) : TInv i 2 0 { st := 1, ix := i - 24, bx := 1, yb := 0, wh := 1 } { st := 1, ix := i - 24, bx := 1, yb := 0, e := e } { st := 1, ix := i - 24, bx := 1, yb := 0, e := e } := by
  have n0 : ¬ Cop.of { st := 1, ix := i - 24, bx := 1, yb := 0, e := e } i := fun h => by have := h.2; dsimp only at this; omega
  have np : ¬ Rec.of { st := 1, ix := i - 24, bx := 1, yb := 0, wh := 1 } i := fun h => by have := h.2; dsimp only at this; omega
  exact ⟨by simp, fun x => by dsimp only; omega, .inr rfl, by simp, fun x => by dsimp only; omega, fun x => absurd x n0, by simp, fun x => by dsimp only; omega, fun x => absurd x n0, fun x => absurd x np, fun x => absurd x np, fun _ => rfl⟩
end Go.Proofs.Ytejejadbemkifaa

namespace Go.Proofs.Ytejejadbemkifaa
set_option maxRecDepth 100000
open Go Go.RowKit

theorem wpAnyH_two {P : Program} {md : Region.Mode} {ops : Array Oper} {Q : Exit → Act → World → Prop} {S S' : World → Prop} {i j : Nat} {oi oj : Oper} {vi vj : Value} {fuel : Nat} {listed : Array Bool} {a : Act} {w : World}
    (hr : Region.ready md ops listed = [i, j]) (hri : Region.ready md ops (listed.setIfInBounds i true) = [j]) (hrj : Region.ready md ops (listed.setIfInBounds j true) = [i])
    (hi : ops[i]? = some oi) (hj : ops[j]? = some oj) (hij : i ≠ j) (hd : ∀ d, oi.dst = some d → oj.dst ≠ some d)
    (h1 : YieldsIf P ops S' oi vi a) (h2 : YieldsIf P ops S' oj vj (a.put oi.dst vi)) (h3 : YieldsIf P ops S' oj vj a) (h4 : YieldsIf P ops S' oi vi (a.put oj.dst vj))
    (hS' : S' w) (hS : S w) (h : wpAnyH P md ops Q S fuel ((listed.setIfInBounds i true).setIfInBounds j true) ((a.put oi.dst vi).put oj.dst vj) w) : wpAnyH P md ops Q S (fuel + 1 + 1) listed a w := by
  refine wpAnyH_ready hr (by simp) fun k hk => ?_
  rcases List.mem_cons.1 hk with rfl | hk
  · refine h1.wpOp hi hS' ⟨hS, wpAnyH_ready hri (by simp) fun m hm => ?_⟩
    obtain rfl : m = j := by simpa using hm
    exact h2.wpOp hj hS' ⟨hS, h⟩
  · obtain rfl : k = j := by simpa using hk
    refine h3.wpOp hj hS' ⟨hS, wpAnyH_ready hrj (by simp) fun m hm => ?_⟩
    obtain rfl : m = i := by simpa using hm
    refine h4.wpOp hi hS' ⟨hS, ?_⟩
    rw [Array.setIfInBounds_comm _ _ (Ne.symm hij), ← Act.put_comm a vi vj hd]
    exact h
theorem setCells_eq (g : Nat) : ∀ (vs : List Value) (w : World) (o : Nat), w.setCells g o vs = setL w g o vs
  | [], _, _ => rfl
  | _ :: vs, _, o => setCells_eq g vs _ (o + 1)
theorem there_row {w : World} {g : Nat} {cs : Array Value} {t : TypeId} (h : w.heap[g]? = some (.cells cs t (0, 0))) (o n : Nat) (hn : o + n ≤ cs.size) : w.there g o n := fun j hj => by
  refine ⟨?_, frozen_of_row w g (o + j) _ _ h⟩
  rw [cell_of_row w g (o + j) _ _ _ h, Array.getElem?_eq_getElem (by omega)]
  rfl
theorem row_setCells {w : World} {g : Nat} {cs : Array Value} {t : TypeId} (h : w.heap[g]? = some (.cells cs t (0, 0))) (o : Nat) (vs : List Value) : (w.setCells g o vs).heap[g]? = some (.cells (setA cs o vs) t (0, 0)) := by
  rw [setCells_eq]
  exact row_setL vs w o cs h
theorem off_setCells {w : World} {g k : Nat} {ob : Obj} (h : w.heap[k]? = some ob) (hk : k ≠ g) (o : Nat) (vs : List Value) : (w.setCells g o vs).heap[k]? = some ob := by
  rw [setCells_eq]
  exact off_setL h hk vs o
theorem ext_setCells {a w : World} (h : Ext a w) {g : Nat} (hg : a.heap.size ≤ g) (o : Nat) (vs : List Value) : Ext a (w.setCells g o vs) := by
  rw [setCells_eq]
  exact ext_setL h hg vs o
theorem results_two {P : Program} {fn : Func} {tmps : Array Value} {w : World} {a b : Tmp} {t u : TypeId} (hr : fn.results = #[.cell a t, .cell b u]) {A B : Addr} {va vb : Value} (ha : tmps.getD a undef = .pointer (some A)) (hb : tmps.getD b undef = .pointer (some B))
    (h1 : (loadVar t A).run P w = .ok va w) (h2 : (loadVar u B).run P w = .ok vb w) : (results fn tmps).run P w = .ok (.tuple #[va, vb]) w := by
  rw [Array.getD_eq_getD_getElem?] at ha hb
  simp [results, hr, asAddr, ha, hb, h1, h2, Sem.run_bind]
end Go.Proofs.Ytejejadbemkifaa

namespace Go.Proofs.Ytejejadbemkifaa
set_option maxRecDepth 100000
open Go Go.RowKit

/-- What tail has made when it begins. -/
structure TlS (w W : World) (g g1 g2 g3 g4 : Nat) (rv tv zr zt : Array Value) (r : Int) : Prop where
  rec_ : W.heap[g]? = some (.cells rv 27 (0, 0))
  two : W.heap[g1]? = some (.cells tv 34 (0, 0))
  bal : W.heap[g2]? = some (.cells #[.int .i64 r, .int .i64 1] 25 (0, 0))
  z3 : W.heap[g3]? = some (.cells zr 27 (0, 0))
  z4 : W.heap[g4]? = some (.cells zt 34 (0, 0))
  ext : Ext w W
  ne : (g < g1 ∧ g1 < g2 ∧ g2 < g3 ∧ g3 < g4) ∧ w.heap.size ≤ g
theorem TlS.make (w : World) (p : Rec) (f0 f1 : Cop) (r : Int) : TlS w (((((w.alloc (.cells #[.int .u8 (p.st : Int), .int .i64 p.ix, .int .i64 p.bx, .int .i64 p.yb, .int .i64 p.wh] 27)).alloc (.cells #[.int .u8 (f0.st : Int), .int .i64 f0.ix, .int .i64 f0.bx, .int .i64 f0.yb, .int .u8 (f0.e.k : Int), .int .i64 f0.e.cl, .int .i64 f0.e.sq, .int .u8 (f0.e.ok : Int), .string f0.e.key, .string f0.e.old, .string f0.e.val, .int .u8 (f1.st : Int), .int .i64 f1.ix, .int .i64 f1.bx, .int .i64 f1.yb, .int .u8 (f1.e.k : Int), .int .i64 f1.e.cl, .int .i64 f1.e.sq, .int .u8 (f1.e.ok : Int), .string f1.e.key, .string f1.e.old, .string f1.e.val] 34)).alloc (.cells #[.int .i64 r, .int .i64 1] 25)).alloc (.cells #[.int .u8 0, .int .i64 0, .int .i64 0, .int .i64 0, .int .i64 0] 27)).alloc (.cells #[.int .u8 0, .int .i64 0, .int .i64 0, .int .i64 0, .int .u8 0, .int .i64 0, .int .i64 0, .int .u8 0, .string ⟨#[]⟩, .string ⟨#[]⟩, .string ⟨#[]⟩, .int .u8 0, .int .i64 0, .int .i64 0, .int .i64 0, .int .u8 0, .int .i64 0, .int .i64 0, .int .u8 0, .string ⟨#[]⟩, .string ⟨#[]⟩, .string ⟨#[]⟩] 34)) w.heap.size (w.heap.size + 1) (w.heap.size + 1 + 1) (w.heap.size + 1 + 1 + 1) (w.heap.size + 1 + 1 + 1 + 1) #[.int .u8 (p.st : Int), .int .i64 p.ix, .int .i64 p.bx, .int .i64 p.yb, .int .i64 p.wh] #[.int .u8 (f0.st : Int), .int .i64 f0.ix, .int .i64 f0.bx, .int .i64 f0.yb, .int .u8 (f0.e.k : Int), .int .i64 f0.e.cl, .int .i64 f0.e.sq, .int .u8 (f0.e.ok : Int), .string f0.e.key, .string f0.e.old, .string f0.e.val, .int .u8 (f1.st : Int), .int .i64 f1.ix, .int .i64 f1.bx, .int .i64 f1.yb, .int .u8 (f1.e.k : Int), .int .i64 f1.e.cl, .int .i64 f1.e.sq, .int .u8 (f1.e.ok : Int), .string f1.e.key, .string f1.e.old, .string f1.e.val] #[.int .u8 0, .int .i64 0, .int .i64 0, .int .i64 0, .int .i64 0] #[.int .u8 0, .int .i64 0, .int .i64 0, .int .i64 0, .int .u8 0, .int .i64 0, .int .i64 0, .int .u8 0, .string ⟨#[]⟩, .string ⟨#[]⟩, .string ⟨#[]⟩, .int .u8 0, .int .i64 0, .int .i64 0, .int .i64 0, .int .u8 0, .int .i64 0, .int .i64 0, .int .u8 0, .string ⟨#[]⟩, .string ⟨#[]⟩, .string ⟨#[]⟩] r := by
  have row : ∀ (V : World) (cs : Array Value) (t : TypeId) (k : Nat), k = V.heap.size → (V.alloc (.cells cs t)).heap[k]? = some (.cells cs t (0, 0)) := fun V cs t k hk => by subst hk; exact heap_alloc_new V _
  have past : ∀ (V : World) (o ob : Obj) (k : Nat), V.heap[k]? = some ob → (V.alloc o).heap[k]? = some ob := fun V o ob k h => keep_row ((Ext.refl V).alloc o) h
  refine ⟨?_, ?_, ?_, ?_, ?_, ?_, ?_⟩
  · exact past _ _ _ _ (past _ _ _ _ (past _ _ _ _ (past _ _ _ _ (row _ _ _ _ rfl))))
  · exact past _ _ _ _ (past _ _ _ _ (past _ _ _ _ (row _ _ _ _ (by simp))))
  · exact past _ _ _ _ (past _ _ _ _ (row _ _ _ _ (by simp)))
  · exact past _ _ _ _ (row _ _ _ _ (by simp))
  · exact row _ _ _ _ (by simp)
  · exact ((((((Ext.refl w).alloc _).alloc _).alloc _).alloc _).alloc _)
  · omega
section
variable {w W W' : World} {g g1 g2 g3 g4 : Nat} {rv tv zr zt : Array Value} {r : Int}
theorem TlS.mono (h : TlS w W g g1 g2 g3 g4 rv tv zr zt r) (k : Ext W W') : TlS w W' g g1 g2 g3 g4 rv tv zr zt r :=
  ⟨keep_row k h.rec_, keep_row k h.two, keep_row k h.bal, keep_row k h.z3, keep_row k h.z4, h.ext.trans k, h.ne⟩
theorem TlS.put1 (h : TlS w W g g1 g2 g3 g4 rv tv zr zt r) (o : Nat) (xs : List Value) : TlS w (setL W g1 o xs) g g1 g2 g3 g4 rv (setA tv o xs) zr zt r :=
  ⟨off_setL h.rec_ (by have := h.ne; omega) xs o, row_setL xs W o tv h.two, off_setL h.bal (by have := h.ne; omega) xs o, off_setL h.z3 (by have := h.ne; omega) xs o, off_setL h.z4 (by have := h.ne; omega) xs o, ext_setL h.ext (by have := h.ne; omega) xs o, h.ne⟩
theorem TlS.put0 (h : TlS w W g g1 g2 g3 g4 rv tv zr zt r) (o : Nat) (xs : List Value) : TlS w (setL W g o xs) g g1 g2 g3 g4 (setA rv o xs) tv zr zt r :=
  ⟨row_setL xs W o rv h.rec_, off_setL h.two (by have := h.ne; omega) xs o, off_setL h.bal (by have := h.ne; omega) xs o, off_setL h.z3 (by have := h.ne; omega) xs o, off_setL h.z4 (by have := h.ne; omega) xs o, ext_setL h.ext (by have := h.ne; omega) xs o, h.ne⟩
theorem TlS.put3 (h : TlS w W g g1 g2 g3 g4 rv tv zr zt r) (o : Nat) (xs : List Value) : TlS w (W.setCells g3 o xs) g g1 g2 g3 g4 rv tv (setA zr o xs) zt r :=
  ⟨off_setCells h.rec_ (by have := h.ne; omega) o xs, off_setCells h.two (by have := h.ne; omega) o xs, off_setCells h.bal (by have := h.ne; omega) o xs, row_setCells h.z3 o xs, off_setCells h.z4 (by have := h.ne; omega) o xs, ext_setCells h.ext (by have := h.ne; omega) o xs, h.ne⟩
theorem TlS.put4 (h : TlS w W g g1 g2 g3 g4 rv tv zr zt r) (o : Nat) (xs : List Value) : TlS w (W.setCells g4 o xs) g g1 g2 g3 g4 rv tv zr (setA zt o xs) r :=
  ⟨off_setCells h.rec_ (by have := h.ne; omega) o xs, off_setCells h.two (by have := h.ne; omega) o xs, off_setCells h.bal (by have := h.ne; omega) o xs, off_setCells h.z3 (by have := h.ne; omega) o xs, row_setCells h.z4 o xs, ext_setCells h.ext (by have := h.ne; omega) o xs, h.ne⟩
end
theorem TlS.fin {w W : World} {g g1 g2 g3 g4 : Nat} {z0 z1 z2 z3 z4 x0 x1 x2 x3 x4 y0 y1 y2 y3 y4 y5 y6 y7 y8 y9 y10 y11 y12 y13 y14 y15 y16 y17 y18 y19 y20 y21 v0 v1 v2 v3 v4 v5 v6 v7 v8 v9 v10 v11 v12 v13 v14 v15 v16 v17 v18 v19 v20 v21 : Value} {rv tv : Array Value} {r : Int} (h : TlS w W g g1 g2 g3 g4 rv tv #[z0, z1, z2, z3, z4] #[v0, v1, v2, v3, v4, v5, v6, v7, v8, v9, v10, v11, v12, v13, v14, v15, v16, v17, v18, v19, v20, v21] r) (i3 : (Try.prog.info? 27).map (·.size) = some 5) (i4 : (Try.prog.info? 34).map (·.size) = some 22) :
    let V := (W.setCells g3 0 [x0, x1, x2, x3, x4]).setCells g4 0 [y0, y1, y2, y3, y4, y5, y6, y7, y8, y9, y10, y11, y12, y13, y14, y15, y16, y17, y18, y19, y20, y21]
    (loadVar 27 ⟨g3, 0, none⟩).run Try.prog V = .ok (.agg #[x0, x1, x2, x3, x4]) V ∧ (loadVar 34 ⟨g4, 0, none⟩).run Try.prog V = .ok (.agg #[y0, y1, y2, y3, y4, y5, y6, y7, y8, y9, y10, y11, y12, y13, y14, y15, y16, y17, y18, y19, y20, y21]) V ∧ Ext w V := by
  intro V
  have hT := (h.put3 0 [x0, x1, x2, x3, x4]).put4 0 [y0, y1, y2, y3, y4, y5, y6, y7, y8, y9, y10, y11, y12, y13, y14, y15, y16, y17, y18, y19, y20, y21]
  rw [arr5, arr22] at hT
  exact ⟨run_loadVar_mid V g3 0 27 [x0, x1, x2, x3, x4] _ (row_range [x0, x1, x2, x3, x4] hT.z3 0) Try.underlying27 rfl i3, run_loadVar_mid V g4 0 34 [y0, y1, y2, y3, y4, y5, y6, y7, y8, y9, y10, y11, y12, y13, y14, y15, y16, y17, y18, y19, y20, y21] _ (row_range [y0, y1, y2, y3, y4, y5, y6, y7, y8, y9, y10, y11, y12, y13, y14, y15, y16, y17, y18, y19, y20, y21] hT.z4 0) Try.underlying34 rfl i4, hT.ext⟩
end Go.Proofs.Ytejejadbemkifaa

namespace Go.Proofs.Ytejejadbemkifaa
set_option maxRecDepth 100000
open Go Go.RowKit

structure TlW (w W : World) (g g1 g2 : Nat) (p : Rec) (f0 f1 : Cop) (a y : Int) : Prop where
  rec_ : RecAt W g p
  two : Two W g1 f0 f1
  ack : W.heap[g2]? = some (.cells #[.int .i64 a, .int .i64 y] 25 (0, 0))
  ext : Ext w W
  ne : (g < g1 ∧ g1 < g2) ∧ w.heap.size ≤ g
section
variable {w W W' : World} {g g1 g2 : Nat} {p : Rec} {f0 f1 : Cop} {a y : Int}
theorem TlW.mono (h : TlW w W g g1 g2 p f0 f1 a y) (k : Ext W W') : TlW w W' g g1 g2 p f0 f1 a y := ⟨h.rec_.ext k, h.two.ext k, keep_row k h.ack, h.ext.trans k, h.ne⟩
theorem TlW.put0 (h : TlW w W g g1 g2 p f0 f1 a y) (p' : Rec) : TlW w (W.setCells g 0 [.int .u8 (p'.st : Int), .int .i64 p'.ix, .int .i64 p'.bx, .int .i64 p'.yb, .int .i64 p'.wh]) g g1 g2 p' f0 f1 a y := by
  refine ⟨?_, off_setCells h.two (by have := h.ne; omega) _ _, off_setCells h.ack (by have := h.ne; omega) _ _, ext_setCells h.ext (by have := h.ne; omega) _ _, h.ne⟩
  have q := row_setCells h.rec_ 0 [.int .u8 (p'.st : Int), .int .i64 p'.ix, .int .i64 p'.bx, .int .i64 p'.yb, .int .i64 p'.wh]
  rw [arr5] at q
  exact q
theorem TlW.put1 (h : TlW w W g g1 g2 p f0 f1 a y) (f0' f1' : Cop) : TlW w (W.setCells g1 0 [.int .u8 (f0'.st : Int), .int .i64 f0'.ix, .int .i64 f0'.bx, .int .i64 f0'.yb, .int .u8 (f0'.e.k : Int), .int .i64 f0'.e.cl, .int .i64 f0'.e.sq, .int .u8 (f0'.e.ok : Int), .string f0'.e.key, .string f0'.e.old, .string f0'.e.val, .int .u8 (f1'.st : Int), .int .i64 f1'.ix, .int .i64 f1'.bx, .int .i64 f1'.yb, .int .u8 (f1'.e.k : Int), .int .i64 f1'.e.cl, .int .i64 f1'.e.sq, .int .u8 (f1'.e.ok : Int), .string f1'.e.key, .string f1'.e.old, .string f1'.e.val]) g g1 g2 p f0' f1' a y := by
  refine ⟨off_setCells h.rec_ (by have := h.ne; omega) _ _, ?_, off_setCells h.ack (by have := h.ne; omega) _ _, ext_setCells h.ext (by have := h.ne; omega) _ _, h.ne⟩
  have q := row_setCells h.two 0 [.int .u8 (f0'.st : Int), .int .i64 f0'.ix, .int .i64 f0'.bx, .int .i64 f0'.yb, .int .u8 (f0'.e.k : Int), .int .i64 f0'.e.cl, .int .i64 f0'.e.sq, .int .u8 (f0'.e.ok : Int), .string f0'.e.key, .string f0'.e.old, .string f0'.e.val, .int .u8 (f1'.st : Int), .int .i64 f1'.ix, .int .i64 f1'.bx, .int .i64 f1'.yb, .int .u8 (f1'.e.k : Int), .int .i64 f1'.e.cl, .int .i64 f1'.e.sq, .int .u8 (f1'.e.ok : Int), .string f1'.e.key, .string f1'.e.old, .string f1'.e.val]
  rw [arr22] at q
  exact q
theorem TlW.put2 (h : TlW w W g g1 g2 p f0 f1 a y) (a' y' : Int) : TlW w ((W.setCell ⟨g2, 0, none⟩ (.int .i64 a')).setCell ⟨g2, 1, none⟩ (.int .i64 y')) g g1 g2 p f0 f1 a' y' := by
  show TlW w (setL W g2 0 [.int .i64 a', .int .i64 y']) g g1 g2 p f0 f1 a' y'
  refine ⟨off_setL h.rec_ (by have := h.ne; omega) _ _, off_setL h.two (by have := h.ne; omega) _ _, ?_, ext_setL h.ext (by have := h.ne; omega) _ _, h.ne⟩
  have q := row_setL [.int .i64 a', .int .i64 y'] W 0 _ h.ack
  exact q
theorem TlW.lt (h : TlW w W g g1 g2 p f0 f1 a y) : g2 < W.heap.size := (Array.getElem?_eq_some_iff.1 h.ack).1
end
theorem TlW.begin_ (w : World) : TlW w (((w.alloc (.cells #[.int .u8 0, .int .i64 0, .int .i64 0, .int .i64 0, .int .i64 0] 27)).alloc (.cells #[.int .u8 0, .int .i64 0, .int .i64 0, .int .i64 0, .int .u8 0, .int .i64 0, .int .i64 0, .int .u8 0, .string ⟨#[]⟩, .string ⟨#[]⟩, .string ⟨#[]⟩, .int .u8 0, .int .i64 0, .int .i64 0, .int .i64 0, .int .u8 0, .int .i64 0, .int .i64 0, .int .u8 0, .string ⟨#[]⟩, .string ⟨#[]⟩, .string ⟨#[]⟩] 34)).alloc (.cells #[.int .i64 0, .int .i64 0] 25)) w.heap.size (w.heap.size + 1) (w.heap.size + 1 + 1) {} {} {} 0 0 := by
  have past : ∀ (V : World) (o ob : Obj) (k : Nat), V.heap[k]? = some ob → (V.alloc o).heap[k]? = some ob := fun V o ob k h => keep_row ((Ext.refl V).alloc o) h
  have row : ∀ (V : World) (cs : Array Value) (t : TypeId) (k : Nat), k = V.heap.size → (V.alloc (.cells cs t)).heap[k]? = some (.cells cs t (0, 0)) := fun V cs t k hk => by subst hk; exact heap_alloc_new V _
  exact ⟨past _ _ _ _ (past _ _ _ _ (row _ _ _ _ rfl)), past _ _ _ _ (row _ _ _ _ (by simp)), row _ _ _ _ (by simp), (((Ext.refl w).alloc _).alloc _).alloc _, by omega⟩
end Go.Proofs.Ytejejadbemkifaa
