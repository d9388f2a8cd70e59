/-
  The document's disk: where it lies (each of its blocks has a part of its own), and how it comes through the stores of its calls.
-/
import Derived.Test.YtldgamgdbneneaaRHead
import Derived.Test.YtldgamgdbneneaaKPd
import Derived.Test.YtldgamgdbneneaaSC
import Derived.Laws.OwnMore
namespace Go.Proofs.Ytldgamgdbneneaa
open Go Go.RowKit

/-- Where the rows lie, and how much they have room for; the pending row; the blocks of the bytes at rest, meant, and waiting. -/
structure Nm where
  gr : Nat
  gm : Nat
  gl : Nat
  cr : Nat
  cm : Nat
  cl : Nat
  pv : Value
  RB : List (Nat × Nat)
  MB : List (Nat × Nat)
  WB : List (Nat × Nat)
def slV (x : Nat × Nat) : Value := .slice (some ⟨x.1, 0, none⟩) 64 x.2
def wflat : List (Nat × List Nat) → List (Nat × Nat) → List Value
  | x :: l, y :: r => .int .i64 (x.1 : Int) :: slV y :: wflat l r
  | _, _ => []
/-- Bytes that lie in a block of their own. -/
def Byt (w : World) (x : Nat × Nat) (b : List Nat) : Prop := w.ownsRow 0 5 1 (slV x) 64 (vb b)
/-- The document's disk at d; p tells each block's part in it: 0 none, 1 the head, 2 to 4 the rows, 5 the pending row, 6 bytes that are never written, 7 and on the bytes at rest of a sector. -/
structure RDq (w : World) (d : Nat) (p : Nat → Nat) (q : Nm) (m : DM) : Prop where
  ok : m.Ok
  head : RHead w d q.gr q.cr q.gm q.cm q.gl q.cl q.pv m
  rr : w.ownsRow 0 33 1 (.slice (some ⟨q.gr, 0, none⟩) m.size q.cr) m.size (q.RB.map slV)
  rm : w.ownsRow 0 33 1 (.slice (some ⟨q.gm, 0, none⟩) m.size q.cm) m.size (q.MB.map slV)
  rl : w.ownsRow 0 4 1 (.slice (some ⟨q.gl, 0, none⟩) m.size q.cl) m.size (m.lost.map .bool)
  rb : ∀ j x, q.RB[j]? = some x → p x.1 = 7 + j ∧ Byt w x (m.rest.getD j [])
  mb : ∀ j x, q.MB[j]? = some x → p x.1 = 6 ∧ Byt w x (m.meant.getD j [])
  wl : q.WB.length = m.waits.length
  wb : ∀ j x, q.WB[j]? = some x → p x.1 = 6 ∧ Byt w x (m.waits.getD j (0, [])).2
  pen : w.ownsRow 0 81 2 q.pv m.waits.length (wflat m.waits q.WB)
  pd : p d = 1
  pr : p q.gr = 2
  pm : p q.gm = 3
  pl : p q.gl = 4
  pp : ∀ k, q.pv.ownBlock = some k → p k = 5
  few : m.power ≤ 9223372036854775807
def RD (w : World) (d : Nat) (p : Nat → Nat) (m : DM) : Prop := (∃ q, RDq w d p q m) ∧ ∀ k, p k ≠ 0 → k < w.heap.size
/-- What a call at the document's disk leaves. -/
def ROut (d : Nat) (p : Nat → Nat) (w : World) (m' : DM) (w' : World) : Prop := ∃ p', RD w' d p' m' ∧ Mod (fun k => p k ≠ 0) w w' ∧ ∀ k, p' k ≠ 0 → p k ≠ 0 ∨ w.heap.size ≤ k

section
variable {w w' : World} {d : Nat} {p : Nat → Nat} {q : Nm} {m : DM} {F : Nat → Prop}
theorem Byt.mod {x : Nat × Nat} {b : List Nat} (h : Byt w x b) (k : Mod F w w') (hx : ¬ F x.1) : Byt w' x b := own_mod h k fun i hi => by
  injection hi with hi
  subst hi
  exact hx
theorem Byt.lt {x : Nat × Nat} {b : List Nat} (h : Byt w x b) : x.1 < w.heap.size := (World.ownsRow.lt h x.1 rfl).2
theorem Byt.by {x : Nat × Nat} {b : List Nat} (h : Byt w x b) (hb : ∀ y ∈ b, y < 256) : By w (some ⟨x.1, 0, none⟩) 64 x.2 b := Bs.of_own h hb
/-- Nothing of the disk's is written. -/
theorem RDq.mod (h : RDq w d p q m) (k : Mod F w w') (hF : ∀ i, p i ≠ 0 → ¬ F i) : RDq w' d p q m :=
  ⟨h.ok, h.head.mod k (hF d (by rw [h.pd]; omega)), own_mod h.rr k (fun i hi => by injection hi with hi; subst hi; exact hF _ (by rw [h.pr]; omega)), own_mod h.rm k (fun i hi => by injection hi with hi; subst hi; exact hF _ (by rw [h.pm]; omega)), own_mod h.rl k (fun i hi => by injection hi with hi; subst hi; exact hF _ (by rw [h.pl]; omega)),
    fun j x hx => ⟨(h.rb j x hx).1, (h.rb j x hx).2.mod k (hF _ (by rw [(h.rb j x hx).1]; omega))⟩, fun j x hx => ⟨(h.mb j x hx).1, (h.mb j x hx).2.mod k (hF _ (by rw [(h.mb j x hx).1]; omega))⟩, h.wl, fun j x hx => ⟨(h.wb j x hx).1, (h.wb j x hx).2.mod k (hF _ (by rw [(h.wb j x hx).1]; omega))⟩,
    own_mod h.pen k (fun i hi => hF i (by rw [h.pp i hi]; omega)), h.pd, h.pr, h.pm, h.pl, h.pp, h.few⟩
theorem RDq.ext (h : RDq w d p q m) (k : Ext w w') : RDq w' d p q m := h.mod (F := fun _ => False) (Mod.of_ext k) fun _ _ h => h
/-- Its blocks lie within the heap. -/
theorem RDq.lts (h : RDq w d p q m) : d < w.heap.size ∧ q.gr < w.heap.size ∧ q.gm < w.heap.size ∧ q.gl < w.heap.size :=
  ⟨(Array.getElem?_eq_some_iff.1 h.head.head).1, (h.rr.lt q.gr rfl).2, (h.rm.lt q.gm rfl).2, (h.rl.lt q.gl rfl).2⟩
/-- New blocks may have any part. -/
theorem RDq.recast (h : RDq w d p q m) {p' : Nat → Nat} (hp : ∀ k, k < w.heap.size → p' k = p k) : RDq w d p' q m :=
  ⟨h.ok, h.head, h.rr, h.rm, h.rl, fun j x hx => ⟨(hp _ (h.rb j x hx).2.lt).trans (h.rb j x hx).1, (h.rb j x hx).2⟩, fun j x hx => ⟨(hp _ (h.mb j x hx).2.lt).trans (h.mb j x hx).1, (h.mb j x hx).2⟩, h.wl, fun j x hx => ⟨(hp _ (h.wb j x hx).2.lt).trans (h.wb j x hx).1, (h.wb j x hx).2⟩, h.pen,
    (hp _ h.lts.1).trans h.pd, (hp _ h.lts.2.1).trans h.pr, (hp _ h.lts.2.2.1).trans h.pm, (hp _ h.lts.2.2.2).trans h.pl, fun k hk => (hp _ (h.pen.lt k hk).2).trans (h.pp k hk), h.few⟩
theorem mod_one (w : World) (g k : Nat) (v : Value) : Mod (fun i => i = g) w (w.setCell ⟨g, k, none⟩ v) := Mod.setCell (F := fun i => i = g) (Mod.refl _ _) (.inl rfl) v
theorem map_set_val {α : Type} (f : α → Value) (l : List α) (j : Nat) (x : α) : (l.set j x).map f = (l.map f).set j (f x) := by rw [List.map_set]
theorem getD_setE {α : Type} {l : List α} {i j : Nat} {x d : α} (hi : i < l.length) : (l.set i x).getD j d = if i = j then x else l.getD j d := getD_set hi
theorem set_get {α : Type} {l : List α} {i j : Nat} {x y : α} (h : (l.set i x)[j]? = some y) : (i = j ∧ y = x) ∨ (i ≠ j ∧ l[j]? = some y) := by
  rw [List.getElem?_set] at h
  split at h
  · split at h
    · injection h with h
      exact .inl ⟨by assumption, h.symm⟩
    · cases h
  · exact .inr ⟨by assumption, h⟩
/-- A sector's bytes at rest are others, in a block of their own. -/
theorem RDq.setRest (h : RDq w d p q m) {j : Nat} {x : Nat × Nat} {b : List Nat} (hj : j < m.size) (hb : Sect b) (hx : Byt w x b) (hp : p x.1 = 7 + j) : RDq (w.setCell ⟨q.gr, j, none⟩ (slV x)) d p { q with RB := q.RB.set j x } { m with rest := m.rest.set j b } := by
  have k := mod_one w q.gr j (slV x)
  have hrl : q.RB.length = m.size := by have := h.rr.1; rw [List.length_map] at this; omega
  have hs : ({ m with rest := m.rest.set j b } : DM).size = m.size := by simp [DM.size]
  have ne : ∀ i r, p i = r → r ≠ 2 → ¬ i = q.gr := fun i r hi hr e => by rw [e, h.pr] at hi; omega
  have own := fun {e s n : Nat} {v : Value} {xs : List Value} (ho : w.ownsRow 0 e s v n xs) (r : Nat) (hr : r ≠ 2) (hv : ∀ i, v.ownBlock = some i → p i = r) => own_mod ho k fun i hi => ne i r (hv i hi) hr
  refine ⟨⟨by rw [hs]; exact h.ok.meant, by rw [hs]; exact h.ok.lost, mem_set_of h.ok.rests hb, h.ok.means, by rw [hs]; exact h.ok.waits, h.ok.power⟩, ?_, ?_, ?_, ?_, ?_, ?_, h.wl, ?_, own h.pen 5 (by omega) h.pp, h.pd, h.pr, h.pm, h.pl, h.pp, h.few⟩
  · have := h.head.mod k (ne d 1 h.pd (by omega))
    exact ⟨by rw [hs]; exact this.head, by rw [hs]; exact this.n1⟩
  · rw [hs]
    have := (h.rr.stored j (slV x)).1
    rwa [← map_set_val] at this
  · rw [hs]; exact own h.rm 3 (by omega) fun i hi => by injection hi with hi; subst hi; exact h.pm
  · rw [hs]; exact own h.rl 4 (by omega) fun i hi => by injection hi with hi; subst hi; exact h.pl
  · intro i y hy
    rcases set_get hy with ⟨rfl, rfl⟩ | ⟨hne, hy⟩
    · refine ⟨hp, ?_⟩
      show Byt _ _ ((m.rest.set j b).getD j [])
      rw [getD_setE (by exact hj), if_pos rfl]
      exact hx.mod k (ne _ _ hp (by omega))
    · refine ⟨(h.rb i y hy).1, ?_⟩
      show Byt _ _ ((m.rest.set j b).getD i [])
      rw [getD_setE (by exact hj), if_neg hne]
      exact (h.rb i y hy).2.mod k (ne _ _ (h.rb i y hy).1 (by omega))
  · intro i y hy
    exact ⟨(h.mb i y hy).1, (h.mb i y hy).2.mod k (ne _ _ (h.mb i y hy).1 (by omega))⟩
  · intro i y hy
    exact ⟨(h.wb i y hy).1, (h.wb i y hy).2.mod k (ne _ _ (h.wb i y hy).1 (by omega))⟩
/-- What a sector is meant to hold is other, in a block that is never written. -/
theorem RDq.setMeant (h : RDq w d p q m) {j : Nat} {x : Nat × Nat} {b : List Nat} (hj : j < m.size) (hb : Sect b) (hx : Byt w x b) (hp : p x.1 = 6) : RDq (w.setCell ⟨q.gm, j, none⟩ (slV x)) d p { q with MB := q.MB.set j x } { m with meant := m.meant.set j b } := by
  have k := mod_one w q.gm j (slV x)
  have ne : ∀ i r, p i = r → r ≠ 3 → ¬ i = q.gm := fun i r hi hr e => by rw [e, h.pm] at hi; omega
  have own := fun {e s n : Nat} {v : Value} {xs : List Value} (ho : w.ownsRow 0 e s v n xs) (r : Nat) (hr : r ≠ 3) (hv : ∀ i, v.ownBlock = some i → p i = r) => own_mod ho k fun i hi => ne i r (hv i hi) hr
  refine ⟨⟨by show (m.meant.set j b).length = _; rw [List.length_set]; exact h.ok.meant, h.ok.lost, h.ok.rests, mem_set_of h.ok.means hb, h.ok.waits, h.ok.power⟩, ?_, ?_, ?_, ?_, ?_, ?_, h.wl, ?_, own h.pen 5 (by omega) h.pp, h.pd, h.pr, h.pm, h.pl, h.pp, h.few⟩
  · have := h.head.mod k (ne d 1 h.pd (by omega))
    exact ⟨this.head, this.n1⟩
  · exact own h.rr 2 (by omega) fun i hi => by injection hi with hi; subst hi; exact h.pr
  · have := (h.rm.stored j (slV x)).1
    rwa [← map_set_val] at this
  · exact own h.rl 4 (by omega) fun i hi => by injection hi with hi; subst hi; exact h.pl
  · intro i y hy
    exact ⟨(h.rb i y hy).1, (h.rb i y hy).2.mod k (ne _ _ (h.rb i y hy).1 (by omega))⟩
  · intro i y hy
    rcases set_get hy with ⟨rfl, rfl⟩ | ⟨hne, hy⟩
    · refine ⟨hp, ?_⟩
      show Byt _ _ ((m.meant.set j b).getD j [])
      rw [getD_setE (by rw [h.ok.meant]; exact hj), if_pos rfl]
      exact hx.mod k (ne _ _ hp (by omega))
    · refine ⟨(h.mb i y hy).1, ?_⟩
      show Byt _ _ ((m.meant.set j b).getD i [])
      rw [getD_setE (by rw [h.ok.meant]; exact hj), if_neg hne]
      exact (h.mb i y hy).2.mod k (ne _ _ (h.mb i y hy).1 (by omega))
  · intro i y hy
    exact ⟨(h.wb i y hy).1, (h.wb i y hy).2.mod k (ne _ _ (h.wb i y hy).1 (by omega))⟩
/-- Whether a sector is lost is other. -/
theorem RDq.setLost (h : RDq w d p q m) (j : Nat) (v : Bool) : RDq (w.setCell ⟨q.gl, j, none⟩ (.bool v)) d p q { m with lost := m.lost.set j v } := by
  have k := mod_one w q.gl j (.bool v)
  have ne : ∀ i r, p i = r → r ≠ 4 → ¬ i = q.gl := fun i r hi hr e => by rw [e, h.pl] at hi; omega
  have own := fun {e s n : Nat} {v : Value} {xs : List Value} (ho : w.ownsRow 0 e s v n xs) (r : Nat) (hr : r ≠ 4) (hv : ∀ i, v.ownBlock = some i → p i = r) => own_mod ho k fun i hi => ne i r (hv i hi) hr
  refine ⟨⟨h.ok.meant, by show (m.lost.set j v).length = _; rw [List.length_set]; exact h.ok.lost, h.ok.rests, h.ok.means, h.ok.waits, h.ok.power⟩, ?_, ?_, ?_, ?_, ?_, ?_, h.wl, ?_, own h.pen 5 (by omega) h.pp, h.pd, h.pr, h.pm, h.pl, h.pp, h.few⟩
  · have := h.head.mod k (ne d 1 h.pd (by omega))
    exact ⟨this.head, this.n1⟩
  · exact own h.rr 2 (by omega) fun i hi => by injection hi with hi; subst hi; exact h.pr
  · exact own h.rm 3 (by omega) fun i hi => by injection hi with hi; subst hi; exact h.pm
  · have := (h.rl.stored j (.bool v)).1
    rwa [← map_set_val] at this
  · intro i y hy
    exact ⟨(h.rb i y hy).1, (h.rb i y hy).2.mod k (ne _ _ (h.rb i y hy).1 (by omega))⟩
  · intro i y hy
    exact ⟨(h.mb i y hy).1, (h.mb i y hy).2.mod k (ne _ _ (h.mb i y hy).1 (by omega))⟩
  · intro i y hy
    exact ⟨(h.wb i y hy).1, (h.wb i y hy).2.mod k (ne _ _ (h.wb i y hy).1 (by omega))⟩
/-- A cell of the head is other; the rows stay. -/
theorem RDq.setHead (h : RDq w d p q m) {m' : DM} (k : Mod (fun i => i = d) w w') (hd : RHead w' d q.gr q.cr q.gm q.cm q.gl q.cl q.pv m') (h1 : m'.rest = m.rest) (h2 : m'.meant = m.meant) (h3 : m'.lost = m.lost) (h4 : m'.waits = m.waits) (h5 : -1 ≤ m'.power ∧ m'.power ≤ 9223372036854775807) : RDq w' d p q m' := by
  have hs : m'.size = m.size := by unfold DM.size; rw [h1]
  have ne : ∀ i r, p i = r → r ≠ 1 → ¬ i = d := fun i r hi hr e => by rw [e, h.pd] at hi; omega
  have own := fun {e s n : Nat} {v : Value} {xs : List Value} (ho : w.ownsRow 0 e s v n xs) (r : Nat) (hr : r ≠ 1) (hv : ∀ i, v.ownBlock = some i → p i = r) => own_mod ho k fun i hi => ne i r (hv i hi) hr
  refine ⟨⟨by rw [h2, hs]; exact h.ok.meant, by rw [h3, hs]; exact h.ok.lost, by rw [h1]; exact h.ok.rests, by rw [h2]; exact h.ok.means, by rw [h4, hs]; exact h.ok.waits, h5.1⟩, hd, ?_, ?_, ?_, ?_, ?_, by rw [h4]; exact h.wl, ?_, by rw [h4]; exact own h.pen 5 (by omega) h.pp, h.pd, h.pr, h.pm, h.pl, h.pp, h5.2⟩
  · rw [hs]; exact own h.rr 2 (by omega) fun i hi => by injection hi with hi; subst hi; exact h.pr
  · rw [hs]; exact own h.rm 3 (by omega) fun i hi => by injection hi with hi; subst hi; exact h.pm
  · rw [hs, h3]; exact own h.rl 4 (by omega) fun i hi => by injection hi with hi; subst hi; exact h.pl
  · intro i y hy
    rw [h1]
    exact ⟨(h.rb i y hy).1, (h.rb i y hy).2.mod k (ne _ _ (h.rb i y hy).1 (by omega))⟩
  · intro i y hy
    rw [h2]
    exact ⟨(h.mb i y hy).1, (h.mb i y hy).2.mod k (ne _ _ (h.mb i y hy).1 (by omega))⟩
  · intro i y hy
    rw [h4]
    exact ⟨(h.wb i y hy).1, (h.wb i y hy).2.mod k (ne _ _ (h.wb i y hy).1 (by omega))⟩
end
end Go.Proofs.Ytldgamgdbneneaa
