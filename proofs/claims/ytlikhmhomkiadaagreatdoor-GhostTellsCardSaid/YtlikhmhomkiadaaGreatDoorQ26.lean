/-
  The document's disk: its head, and the calls that touch no more than that.
  The document's disk: where it lies (each of its blocks has a part of its own), and how it comes through the stores of its calls.
-/
import Derived.Test.YtlikhmhomkiadaaGreatDoorQ01
import Derived.Test.YtlikhmhomkiadaaGreatDoorQ03
import Derived.Test.YtlikhmhomkiadaaGreatDoorQ12
import Derived.Test.YtlikhmhomkiadaaGreatDoorQ13
import Derived.Lib.Hide
import Derived.Laws.OwnMore
namespace Go.Proofs.YtlikhmhomkiadaaGreatDoor
set_option maxRecDepth 100000
open Go Go.RowKit

/-- The head's seven cells: three rows, the pending writes, down, dead, power. -/
structure RHead (w : World) (d gr cr gm cm gl cl : Nat) (pv : Value) (m : DM) : Prop where
  head : w.heap[d]? = some (.cells #[.slice (some ⟨gr, 0, none⟩) m.size cr, .slice (some ⟨gm, 0, none⟩) m.size cm, .slice (some ⟨gl, 0, none⟩) m.size cl, pv, .bool m.down, .bool m.dead, .int .i64 m.power] 95 (0, 0))
  n1 : 1 ≤ m.size ∧ m.size ≤ 1024
section
variable {w w' : World} {d gr cr gm cm gl cl : Nat} {pv : Value} {m : DM} {F : Nat → Prop}
theorem RHead.mod (h : RHead w d gr cr gm cm gl cl pv m) (k : Mod F w w') (hd : ¬ F d) : RHead w' d gr cr gm cm gl cl pv m := ⟨heap_mod h.head k hd, h.n1⟩
theorem RHead.ext (h : RHead w d gr cr gm cm gl cl pv m) (k : Ext w w') : RHead w' d gr cr gm cm gl cl pv m := h.mod (F := fun _ => False) (Mod.of_ext k) fun h => h
theorem RHead.cells (h : RHead w d gr cr gm cm gl cl pv m) :
    (w.cell? ⟨d, 0, none⟩ = some (.slice (some ⟨gr, 0, none⟩) m.size cr) ∧ w.cell? ⟨d, 1, none⟩ = some (.slice (some ⟨gm, 0, none⟩) m.size cm) ∧ w.cell? ⟨d, 2, none⟩ = some (.slice (some ⟨gl, 0, none⟩) m.size cl) ∧ w.cell? ⟨d, 3, none⟩ = some pv ∧ w.cell? ⟨d, 4, none⟩ = some (.bool m.down) ∧ w.cell? ⟨d, 5, none⟩ = some (.bool m.dead) ∧ w.cell? ⟨d, 6, none⟩ = some (.int .i64 m.power)) ∧
      ∀ i, w.frozen? ⟨d, i, none⟩ = false :=
  ⟨⟨cell_of_row w d 0 _ _ _ h.head, cell_of_row w d 1 _ _ _ h.head, cell_of_row w d 2 _ _ _ h.head, cell_of_row w d 3 _ _ _ h.head, cell_of_row w d 4 _ _ _ h.head, cell_of_row w d 5 _ _ _ h.head, cell_of_row w d 6 _ _ _ h.head⟩, fun i => frozen_of_row w d i _ _ h.head⟩

set_option maxRecDepth 100000 in
set_option maxHeartbeats 600000 in
theorem rhas_of (h : RHead w d gr cr gm cm gl cl pv m) (s : Int) :
    Calls Tryz.prog 83 #[.pointer (some ⟨d, 0, none⟩), .int .i64 s] w fun e w' => e = .returned (.bool (m.has s)) ∧ w = w' := by
  obtain ⟨⟨c0, _⟩, _⟩ := h.cells
  have HE : Hid (m.has s = (decide (0 ≤ s) && decide (s < (m.size : Int)))) := Lib.hid (by unfold DM.has; rfl)
  clear h
  generalize m.size = n at *
  by_cases h0 : 0 ≤ s
  · by_cases h1 : s < (n : Int)
    · go_enter Tryz.func83, Tryz.ntmps83
      go_wp2_with fail
      go_ret
      exact ⟨by rw [HE.out]; simp [h0, h1], rfl⟩
    · go_enter Tryz.func83, Tryz.ntmps83
      go_wp2_with fail
      go_ret
      exact ⟨by rw [HE.out]; simp [h0, h1], rfl⟩
  · go_enter Tryz.func83, Tryz.ntmps83
    go_wp2_with fail
    go_ret
    exact ⟨by rw [HE.out, decide_eq_false (show ¬ 0 ≤ s by omega)]; rfl, rfl⟩
/-- Power is used. -/
def spendM (m : DM) : DM := if m.power = 0 then { m with dead := true } else { m with power := lessP m.power }
set_option maxRecDepth 100000 in
set_option maxHeartbeats 600000 in
theorem rspend_of (h : RHead w d gr cr gm cm gl cl pv m) (hp : -1 ≤ m.power ∧ m.power ≤ 9223372036854775807) :
    Calls Tryz.prog 109 #[.pointer (some ⟨d, 0, none⟩)] w fun e w' => e = .returned (.bool (decide (m.power ≠ 0))) ∧ RHead w' d gr cr gm cm gl cl pv (spendM m) ∧ Mod (fun i => i = d) w w' := by
  have H := Lib.hid h
  obtain ⟨⟨_, _, _, _, _, c5, c6⟩, hf⟩ := h.cells
  have f5 := hf 5
  have f6 := hf 6
  obtain ⟨p, hpp⟩ : ∃ p, m.power = p := ⟨_, rfl⟩
  have HP := Lib.hid hpp
  rw [hpp] at c6 hp
  clear h hf hpp
  generalize m.dead = dd at c5
  by_cases h0 : p = 0
  · subst h0
    go_enter Tryz.func109, Tryz.ntmps109
    go_wp2_with fail
    go_ret
    have e : spendM m = { m with dead := true } := if_pos HP.out
    rw [e]
    exact ⟨by rw [HP.out]; rfl, ⟨row_set 5 H.out.head _ rfl, H.out.n1⟩, Mod.setCell (F := fun i => i = d) (Mod.refl _ _) (.inl rfl) _⟩
  · have g0 : (p == 0) = false := by simpa using h0
    have e : spendM m = { m with power := lessP p } := by unfold spendM; rw [if_neg (by rw [HP.out]; exact h0), HP.out]
    by_cases h1 : 0 < p
    · have hw : IntKind.i64.wrap (p - 1) = p - 1 := IntWalk.i64_in _ (by omega)
      have HE := Lib.hid e
      have HL : Hid (lessP p = p - 1) := Lib.hid (if_pos h1)
      have H0 := Lib.hid h0
      clear e
      go_enter Tryz.func109, Tryz.ntmps109
      go_wp2_with fail
      go_ret
      rw [HE.out, HL.out]
      exact ⟨by rw [HP.out]; first | (rw [decide_eq_true (show p ≠ 0 from H0.out)]; rfl) | (rw [decide_eq_false H0.out]; rfl), ⟨row_set 6 H.out.head _ rfl, H.out.n1⟩, Mod.setCell (F := fun i => i = d) (Mod.refl _ _) (.inl rfl) _⟩
    · have HE := Lib.hid e
      have HL : Hid (lessP p = p) := Lib.hid (if_neg h1)
      have H0 := Lib.hid h0
      clear e
      go_enter Tryz.func109, Tryz.ntmps109
      go_wp2_with fail
      go_ret
      rw [HE.out, HL.out]
      refine ⟨by rw [HP.out]; first | (rw [decide_eq_true (show p ≠ 0 from H0.out)]; rfl) | (rw [decide_eq_false H0.out]; rfl), ⟨?_, H.out.n1⟩, Mod.refl _ _⟩
      have := H.out.head
      rw [HP.out] at this
      exact this
set_option maxRecDepth 100000 in
set_option maxHeartbeats 600000 in
theorem rstart_of (h : RHead w d gr cr gm cm gl cl pv m) :
    Calls Tryz.prog 104 #[.pointer (some ⟨d, 0, none⟩)] w fun e w' => e = .returned (.int .i64 m.start.1) ∧ RHead w' d gr cr gm cm gl cl pv m.start.2 ∧ Mod (fun i => i = d) w w' := by
  have H := Lib.hid h
  obtain ⟨⟨_, _, _, _, c4, c5, c6⟩, hf⟩ := h.cells
  have f4 := hf 4
  have f5 := hf 5
  have f6 := hf 6
  clear h hf
  by_cases hd : m.down = true
  · have e : m.start = (0, { m with down := false, dead := false, power := -1 }) := by unfold DM.start; rw [if_neg (by rw [hd]; simp)]
    have HE := Lib.hid e
    rw [hd] at c4
    clear e hd
    generalize m.dead = dd at c5
    generalize m.power = pp at c6
    go_enter Tryz.func104, Tryz.ntmps104
    go_wp2_with fail
    go_ret
    rw [HE.out]
    exact ⟨rfl, ⟨row_set 6 (row_set 5 (row_set 4 H.out.head _ rfl) _ rfl) _ rfl, H.out.n1⟩, ((Mod.setCell (F := fun i => i = d) (Mod.refl _ _) (.inl rfl) _).setCell (.inl rfl) _).setCell (.inl rfl) _⟩
  · have hd' : m.down = false := by simpa using hd
    have e : m.start = (2, m) := by unfold DM.start; rw [if_pos hd']
    have HE := Lib.hid e
    rw [hd'] at c4
    clear e hd hd'
    go_enter Tryz.func104, Tryz.ntmps104
    go_wp2_with fail
    go_ret
    rw [HE.out]
    exact ⟨rfl, H.out, Mod.refl _ _⟩
set_option maxRecDepth 100000 in
set_option maxHeartbeats 600000 in
theorem rpower_of (h : RHead w d gr cr gm cm gl cl pv m) (n : Int) :
    Calls Tryz.prog 108 #[.pointer (some ⟨d, 0, none⟩), .int .i64 n] w fun e w' => e = .returned (.int .i64 (m.setPower n).1) ∧ RHead w' d gr cr gm cm gl cl pv (m.setPower n).2 ∧ Mod (fun i => i = d) w w' := by
  have H := Lib.hid h
  obtain ⟨⟨_, _, _, _, c4, c5, c6⟩, hf⟩ := h.cells
  have f6 := hf 6
  clear h hf
  by_cases hu : m.up = true
  · have hd : m.down = false ∧ m.dead = false := by
      unfold DM.up at hu
      cases h1 : m.down <;> cases h2 : m.dead <;> simp_all
    rw [hd.1] at c4
    rw [hd.2] at c5
    have HU := Lib.hid hu
    clear hd hu
    by_cases hn : n < 0
    · have e : m.setPower n = (2, m) := by unfold DM.setPower; rw [if_neg (by rw [HU.out]; simp), if_pos hn]
      have HE := Lib.hid e
      clear e
      go_enter Tryz.func108, Tryz.ntmps108
      go_wp2_with fail
      go_ret
      rw [HE.out]
      exact ⟨rfl, H.out, Mod.refl _ _⟩
    · have e : m.setPower n = (0, { m with power := n }) := by unfold DM.setPower; rw [if_neg (by rw [HU.out]; simp), if_neg hn]
      have HE := Lib.hid e
      clear e
      generalize m.power = pp at c6
      go_enter Tryz.func108, Tryz.ntmps108
      go_wp2_with fail
      go_ret
      rw [HE.out]
      exact ⟨rfl, ⟨row_set 6 H.out.head _ rfl, H.out.n1⟩, Mod.setCell (F := fun i => i = d) (Mod.refl _ _) (.inl rfl) _⟩
  · have e : m.setPower n = (5, m) := by unfold DM.setPower; rw [if_pos (by simpa using hu)]
    have HE := Lib.hid e
    have hd : m.down = true ∨ (m.down = false ∧ m.dead = true) := by
      unfold DM.up at hu
      cases h1 : m.down <;> cases h2 : m.dead <;> simp_all
    clear e hu
    rcases hd with hd | hd
    · rw [hd] at c4
      clear hd
      go_enter Tryz.func108, Tryz.ntmps108
      go_wp2_with fail
      go_ret
      rw [HE.out]
      exact ⟨rfl, H.out, Mod.refl _ _⟩
    · rw [hd.1] at c4
      rw [hd.2] at c5
      clear hd
      go_enter Tryz.func108, Tryz.ntmps108
      go_wp2_with fail
      go_ret
      rw [HE.out]
      exact ⟨rfl, H.out, Mod.refl _ _⟩
end
end Go.Proofs.YtlikhmhomkiadaaGreatDoor

namespace Go.Proofs.YtlikhmhomkiadaaGreatDoor
set_option maxRecDepth 100000
open Go Go.RowKit

/-- Where the rows lie, and how much they have room for; the pending row; the blocks of the bytes at rest, meant, and waiting. -/
structure Nm where
  gr : Nat
  gm : Nat
  gl : Nat
  cr : Nat
  cm : Nat
  cl : Nat
  pv : Value
  RB : List (Nat × Nat)
  MB : List (Nat × Nat)
  WB : List (Nat × Nat)
def slV (x : Nat × Nat) : Value := .slice (some ⟨x.1, 0, none⟩) 64 x.2
def wflat : List (Nat × List Nat) → List (Nat × Nat) → List Value
  | x :: l, y :: r => .int .i64 (x.1 : Int) :: slV y :: wflat l r
  | _, _ => []
/-- Bytes that lie in a block of their own. -/
def Byt (w : World) (x : Nat × Nat) (b : List Nat) : Prop := w.ownsRow 0 5 1 (slV x) 64 (vb b)
/-- The document's disk at d; p tells each block's part in it: 0 none, 1 the head, 2 to 4 the rows, 5 the pending row, 6 bytes that are never written, 7 and on the bytes at rest of a sector. -/
structure RDq (w : World) (d : Nat) (p : Nat → Nat) (q : Nm) (m : DM) : Prop where
  ok : m.Ok
  head : RHead w d q.gr q.cr q.gm q.cm q.gl q.cl q.pv m
  rr : w.ownsRow 0 34 1 (.slice (some ⟨q.gr, 0, none⟩) m.size q.cr) m.size (q.RB.map slV)
  rm : w.ownsRow 0 34 1 (.slice (some ⟨q.gm, 0, none⟩) m.size q.cm) m.size (q.MB.map slV)
  rl : w.ownsRow 0 4 1 (.slice (some ⟨q.gl, 0, none⟩) m.size q.cl) m.size (m.lost.map .bool)
  rb : ∀ j x, q.RB[j]? = some x → p x.1 = 7 + j ∧ Byt w x (m.rest.getD j [])
  mb : ∀ j x, q.MB[j]? = some x → p x.1 = 6 ∧ Byt w x (m.meant.getD j [])
  wl : q.WB.length = m.waits.length
  wb : ∀ j x, q.WB[j]? = some x → p x.1 = 6 ∧ Byt w x (m.waits.getD j (0, [])).2
  pen : w.ownsRow 0 168 2 q.pv m.waits.length (wflat m.waits q.WB)
  pd : p d = 1
  pr : p q.gr = 2
  pm : p q.gm = 3
  pl : p q.gl = 4
  pp : ∀ k, q.pv.ownBlock = some k → p k = 5
  few : m.power ≤ 9223372036854775807
def RD (w : World) (d : Nat) (p : Nat → Nat) (m : DM) : Prop := (∃ q, RDq w d p q m) ∧ ∀ k, p k ≠ 0 → k < w.heap.size
/-- What a call at the document's disk leaves. -/
def ROut (d : Nat) (p : Nat → Nat) (w : World) (m' : DM) (w' : World) : Prop := ∃ p', RD w' d p' m' ∧ Mod (fun k => p k ≠ 0) w w' ∧ ∀ k, p' k ≠ 0 → p k ≠ 0 ∨ w.heap.size ≤ k

section
variable {w w' : World} {d : Nat} {p : Nat → Nat} {q : Nm} {m : DM} {F : Nat → Prop}
theorem Byt.mod {x : Nat × Nat} {b : List Nat} (h : Byt w x b) (k : Mod F w w') (hx : ¬ F x.1) : Byt w' x b := own_mod h k fun i hi => by
  injection hi with hi
  subst hi
  exact hx
theorem Byt.lt {x : Nat × Nat} {b : List Nat} (h : Byt w x b) : x.1 < w.heap.size := (World.ownsRow.lt h x.1 rfl).2
theorem Byt.by {x : Nat × Nat} {b : List Nat} (h : Byt w x b) (hb : ∀ y ∈ b, y < 256) : By w (some ⟨x.1, 0, none⟩) 64 x.2 b := Bs.of_own h hb
/-- Nothing of the disk's is written. -/
theorem RDq.mod (h : RDq w d p q m) (k : Mod F w w') (hF : ∀ i, p i ≠ 0 → ¬ F i) : RDq w' d p q m :=
  ⟨h.ok, h.head.mod k (hF d (by rw [h.pd]; omega)), own_mod h.rr k (fun i hi => by injection hi with hi; subst hi; exact hF _ (by rw [h.pr]; omega)), own_mod h.rm k (fun i hi => by injection hi with hi; subst hi; exact hF _ (by rw [h.pm]; omega)), own_mod h.rl k (fun i hi => by injection hi with hi; subst hi; exact hF _ (by rw [h.pl]; omega)),
    fun j x hx => ⟨(h.rb j x hx).1, (h.rb j x hx).2.mod k (hF _ (by rw [(h.rb j x hx).1]; omega))⟩, fun j x hx => ⟨(h.mb j x hx).1, (h.mb j x hx).2.mod k (hF _ (by rw [(h.mb j x hx).1]; omega))⟩, h.wl, fun j x hx => ⟨(h.wb j x hx).1, (h.wb j x hx).2.mod k (hF _ (by rw [(h.wb j x hx).1]; omega))⟩,
    own_mod h.pen k (fun i hi => hF i (by rw [h.pp i hi]; omega)), h.pd, h.pr, h.pm, h.pl, h.pp, h.few⟩
theorem RDq.ext (h : RDq w d p q m) (k : Ext w w') : RDq w' d p q m := h.mod (F := fun _ => False) (Mod.of_ext k) fun _ _ h => h
/-- Its blocks lie within the heap. -/
theorem RDq.lts (h : RDq w d p q m) : d < w.heap.size ∧ q.gr < w.heap.size ∧ q.gm < w.heap.size ∧ q.gl < w.heap.size :=
  ⟨(Array.getElem?_eq_some_iff.1 h.head.head).1, (h.rr.lt q.gr rfl).2, (h.rm.lt q.gm rfl).2, (h.rl.lt q.gl rfl).2⟩
/-- New blocks may have any part. -/
theorem RDq.recast (h : RDq w d p q m) {p' : Nat → Nat} (hp : ∀ k, k < w.heap.size → p' k = p k) : RDq w d p' q m :=
  ⟨h.ok, h.head, h.rr, h.rm, h.rl, fun j x hx => ⟨(hp _ (h.rb j x hx).2.lt).trans (h.rb j x hx).1, (h.rb j x hx).2⟩, fun j x hx => ⟨(hp _ (h.mb j x hx).2.lt).trans (h.mb j x hx).1, (h.mb j x hx).2⟩, h.wl, fun j x hx => ⟨(hp _ (h.wb j x hx).2.lt).trans (h.wb j x hx).1, (h.wb j x hx).2⟩, h.pen,
    (hp _ h.lts.1).trans h.pd, (hp _ h.lts.2.1).trans h.pr, (hp _ h.lts.2.2.1).trans h.pm, (hp _ h.lts.2.2.2).trans h.pl, fun k hk => (hp _ (h.pen.lt k hk).2).trans (h.pp k hk), h.few⟩
theorem mod_one (w : World) (g k : Nat) (v : Value) : Mod (fun i => i = g) w (w.setCell ⟨g, k, none⟩ v) := Mod.setCell (F := fun i => i = g) (Mod.refl _ _) (.inl rfl) v
theorem map_set_val {α : Type} (f : α → Value) (l : List α) (j : Nat) (x : α) : (l.set j x).map f = (l.map f).set j (f x) := by rw [List.map_set]
theorem getD_setE {α : Type} {l : List α} {i j : Nat} {x d : α} (hi : i < l.length) : (l.set i x).getD j d = if i = j then x else l.getD j d := getD_set hi
theorem set_get {α : Type} {l : List α} {i j : Nat} {x y : α} (h : (l.set i x)[j]? = some y) : (i = j ∧ y = x) ∨ (i ≠ j ∧ l[j]? = some y) := by
  rw [List.getElem?_set] at h
  split at h
  · split at h
    · injection h with h
      exact .inl ⟨by assumption, h.symm⟩
    · cases h
  · exact .inr ⟨by assumption, h⟩
/-- A sector's bytes at rest are others, in a block of their own. -/
theorem RDq.setRest (h : RDq w d p q m) {j : Nat} {x : Nat × Nat} {b : List Nat} (hj : j < m.size) (hb : Sect b) (hx : Byt w x b) (hp : p x.1 = 7 + j) : RDq (w.setCell ⟨q.gr, j, none⟩ (slV x)) d p { q with RB := q.RB.set j x } { m with rest := m.rest.set j b } := by
  have k := mod_one w q.gr j (slV x)
  have hrl : q.RB.length = m.size := by have := h.rr.1; rw [List.length_map] at this; omega
  have hs : ({ m with rest := m.rest.set j b } : DM).size = m.size := by simp [DM.size]
  have ne : ∀ i r, p i = r → r ≠ 2 → ¬ i = q.gr := fun i r hi hr e => by rw [e, h.pr] at hi; omega
  have own := fun {e s n : Nat} {v : Value} {xs : List Value} (ho : w.ownsRow 0 e s v n xs) (r : Nat) (hr : r ≠ 2) (hv : ∀ i, v.ownBlock = some i → p i = r) => own_mod ho k fun i hi => ne i r (hv i hi) hr
  refine ⟨⟨by rw [hs]; exact h.ok.meant, by rw [hs]; exact h.ok.lost, mem_set_of h.ok.rests hb, h.ok.means, by rw [hs]; exact h.ok.waits, h.ok.power⟩, ?_, ?_, ?_, ?_, ?_, ?_, h.wl, ?_, own h.pen 5 (by omega) h.pp, h.pd, h.pr, h.pm, h.pl, h.pp, h.few⟩
  · have := h.head.mod k (ne d 1 h.pd (by omega))
    exact ⟨by rw [hs]; exact this.head, by rw [hs]; exact this.n1⟩
  · rw [hs]
    have := (h.rr.stored j (slV x)).1
    rwa [← map_set_val] at this
  · rw [hs]; exact own h.rm 3 (by omega) fun i hi => by injection hi with hi; subst hi; exact h.pm
  · rw [hs]; exact own h.rl 4 (by omega) fun i hi => by injection hi with hi; subst hi; exact h.pl
  · intro i y hy
    rcases set_get hy with ⟨rfl, rfl⟩ | ⟨hne, hy⟩
    · refine ⟨hp, ?_⟩
      show Byt _ _ ((m.rest.set j b).getD j [])
      rw [getD_setE (by exact hj), if_pos rfl]
      exact hx.mod k (ne _ _ hp (by omega))
    · refine ⟨(h.rb i y hy).1, ?_⟩
      show Byt _ _ ((m.rest.set j b).getD i [])
      rw [getD_setE (by exact hj), if_neg hne]
      exact (h.rb i y hy).2.mod k (ne _ _ (h.rb i y hy).1 (by omega))
  · intro i y hy
    exact ⟨(h.mb i y hy).1, (h.mb i y hy).2.mod k (ne _ _ (h.mb i y hy).1 (by omega))⟩
  · intro i y hy
    exact ⟨(h.wb i y hy).1, (h.wb i y hy).2.mod k (ne _ _ (h.wb i y hy).1 (by omega))⟩
/-- What a sector is meant to hold is other, in a block that is never written. -/
theorem RDq.setMeant (h : RDq w d p q m) {j : Nat} {x : Nat × Nat} {b : List Nat} (hj : j < m.size) (hb : Sect b) (hx : Byt w x b) (hp : p x.1 = 6) : RDq (w.setCell ⟨q.gm, j, none⟩ (slV x)) d p { q with MB := q.MB.set j x } { m with meant := m.meant.set j b } := by
  have k := mod_one w q.gm j (slV x)
  have ne : ∀ i r, p i = r → r ≠ 3 → ¬ i = q.gm := fun i r hi hr e => by rw [e, h.pm] at hi; omega
  have own := fun {e s n : Nat} {v : Value} {xs : List Value} (ho : w.ownsRow 0 e s v n xs) (r : Nat) (hr : r ≠ 3) (hv : ∀ i, v.ownBlock = some i → p i = r) => own_mod ho k fun i hi => ne i r (hv i hi) hr
  refine ⟨⟨by show (m.meant.set j b).length = _; rw [List.length_set]; exact h.ok.meant, h.ok.lost, h.ok.rests, mem_set_of h.ok.means hb, h.ok.waits, h.ok.power⟩, ?_, ?_, ?_, ?_, ?_, ?_, h.wl, ?_, own h.pen 5 (by omega) h.pp, h.pd, h.pr, h.pm, h.pl, h.pp, h.few⟩
  · have := h.head.mod k (ne d 1 h.pd (by omega))
    exact ⟨this.head, this.n1⟩
  · exact own h.rr 2 (by omega) fun i hi => by injection hi with hi; subst hi; exact h.pr
  · have := (h.rm.stored j (slV x)).1
    rwa [← map_set_val] at this
  · exact own h.rl 4 (by omega) fun i hi => by injection hi with hi; subst hi; exact h.pl
  · intro i y hy
    exact ⟨(h.rb i y hy).1, (h.rb i y hy).2.mod k (ne _ _ (h.rb i y hy).1 (by omega))⟩
  · intro i y hy
    rcases set_get hy with ⟨rfl, rfl⟩ | ⟨hne, hy⟩
    · refine ⟨hp, ?_⟩
      show Byt _ _ ((m.meant.set j b).getD j [])
      rw [getD_setE (by rw [h.ok.meant]; exact hj), if_pos rfl]
      exact hx.mod k (ne _ _ hp (by omega))
    · refine ⟨(h.mb i y hy).1, ?_⟩
      show Byt _ _ ((m.meant.set j b).getD i [])
      rw [getD_setE (by rw [h.ok.meant]; exact hj), if_neg hne]
      exact (h.mb i y hy).2.mod k (ne _ _ (h.mb i y hy).1 (by omega))
  · intro i y hy
    exact ⟨(h.wb i y hy).1, (h.wb i y hy).2.mod k (ne _ _ (h.wb i y hy).1 (by omega))⟩
/-- Whether a sector is lost is other. -/
theorem RDq.setLost (h : RDq w d p q m) (j : Nat) (v : Bool) : RDq (w.setCell ⟨q.gl, j, none⟩ (.bool v)) d p q { m with lost := m.lost.set j v } := by
  have k := mod_one w q.gl j (.bool v)
  have ne : ∀ i r, p i = r → r ≠ 4 → ¬ i = q.gl := fun i r hi hr e => by rw [e, h.pl] at hi; omega
  have own := fun {e s n : Nat} {v : Value} {xs : List Value} (ho : w.ownsRow 0 e s v n xs) (r : Nat) (hr : r ≠ 4) (hv : ∀ i, v.ownBlock = some i → p i = r) => own_mod ho k fun i hi => ne i r (hv i hi) hr
  refine ⟨⟨h.ok.meant, by show (m.lost.set j v).length = _; rw [List.length_set]; exact h.ok.lost, h.ok.rests, h.ok.means, h.ok.waits, h.ok.power⟩, ?_, ?_, ?_, ?_, ?_, ?_, h.wl, ?_, own h.pen 5 (by omega) h.pp, h.pd, h.pr, h.pm, h.pl, h.pp, h.few⟩
  · have := h.head.mod k (ne d 1 h.pd (by omega))
    exact ⟨this.head, this.n1⟩
  · exact own h.rr 2 (by omega) fun i hi => by injection hi with hi; subst hi; exact h.pr
  · exact own h.rm 3 (by omega) fun i hi => by injection hi with hi; subst hi; exact h.pm
  · have := (h.rl.stored j (.bool v)).1
    rwa [← map_set_val] at this
  · intro i y hy
    exact ⟨(h.rb i y hy).1, (h.rb i y hy).2.mod k (ne _ _ (h.rb i y hy).1 (by omega))⟩
  · intro i y hy
    exact ⟨(h.mb i y hy).1, (h.mb i y hy).2.mod k (ne _ _ (h.mb i y hy).1 (by omega))⟩
  · intro i y hy
    exact ⟨(h.wb i y hy).1, (h.wb i y hy).2.mod k (ne _ _ (h.wb i y hy).1 (by omega))⟩
/-- A cell of the head is other; the rows stay. -/
theorem RDq.setHead (h : RDq w d p q m) {m' : DM} (k : Mod (fun i => i = d) w w') (hd : RHead w' d q.gr q.cr q.gm q.cm q.gl q.cl q.pv m') (h1 : m'.rest = m.rest) (h2 : m'.meant = m.meant) (h3 : m'.lost = m.lost) (h4 : m'.waits = m.waits) (h5 : -1 ≤ m'.power ∧ m'.power ≤ 9223372036854775807) : RDq w' d p q m' := by
  have hs : m'.size = m.size := by unfold DM.size; rw [h1]
  have ne : ∀ i r, p i = r → r ≠ 1 → ¬ i = d := fun i r hi hr e => by rw [e, h.pd] at hi; omega
  have own := fun {e s n : Nat} {v : Value} {xs : List Value} (ho : w.ownsRow 0 e s v n xs) (r : Nat) (hr : r ≠ 1) (hv : ∀ i, v.ownBlock = some i → p i = r) => own_mod ho k fun i hi => ne i r (hv i hi) hr
  refine ⟨⟨by rw [h2, hs]; exact h.ok.meant, by rw [h3, hs]; exact h.ok.lost, by rw [h1]; exact h.ok.rests, by rw [h2]; exact h.ok.means, by rw [h4, hs]; exact h.ok.waits, h5.1⟩, hd, ?_, ?_, ?_, ?_, ?_, by rw [h4]; exact h.wl, ?_, by rw [h4]; exact own h.pen 5 (by omega) h.pp, h.pd, h.pr, h.pm, h.pl, h.pp, h5.2⟩
  · rw [hs]; exact own h.rr 2 (by omega) fun i hi => by injection hi with hi; subst hi; exact h.pr
  · rw [hs]; exact own h.rm 3 (by omega) fun i hi => by injection hi with hi; subst hi; exact h.pm
  · rw [hs, h3]; exact own h.rl 4 (by omega) fun i hi => by injection hi with hi; subst hi; exact h.pl
  · intro i y hy
    rw [h1]
    exact ⟨(h.rb i y hy).1, (h.rb i y hy).2.mod k (ne _ _ (h.rb i y hy).1 (by omega))⟩
  · intro i y hy
    rw [h2]
    exact ⟨(h.mb i y hy).1, (h.mb i y hy).2.mod k (ne _ _ (h.mb i y hy).1 (by omega))⟩
  · intro i y hy
    rw [h4]
    exact ⟨(h.wb i y hy).1, (h.wb i y hy).2.mod k (ne _ _ (h.wb i y hy).1 (by omega))⟩
end
end Go.Proofs.YtlikhmhomkiadaaGreatDoor
