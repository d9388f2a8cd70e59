/-
  The program's disk and the document's disk side by side: an act at either leaves the other as it was.
-/
import Derived.Test.YtldgamgdbneneaaRTells
import Derived.Test.YtldgamgdbneneaaKGreat
import Derived.Test.YtldgamgdbneneaaKReads
namespace Go.Proofs.Ytldgamgdbneneaa
open Go Go.RowKit

structure Both (w0 w : World) (d r : Nat) (F : Nat → Prop) (p : Nat → Nat) (m m' : DM) : Prop where
  dk : DK w0 w d F m
  rd : RD w r p m'
  low : ∀ i, p i ≠ 0 → w0.heap.size ≤ i
  apart : ∀ i, p i ≠ 0 → ¬ F i
section
variable {w0 w : World} {d r : Nat} {F : Nat → Prop} {p : Nat → Nat} {m m' m2 : DM}
theorem Both.ext (h : Both w0 w d r F p m m') {w' : World} (k : Ext w w') : Both w0 w' d r F p m m' := ⟨h.dk.ext k, h.rd.ext k, h.low, h.apart⟩
theorem Both.do_ (h : Both w0 w d r F p m m') (a : Act5) (ha : a.Ok w0 w0.heap.size) (hn : a.bn ≤ 200) (hfew : m.waits.length ≤ 1000) {E : Int} (hact : m.act a.kind a.sec a.num a.bl a.kl = (E, m2)) :
    Calls Try.prog 8 #[.pointer (some ⟨d, 0, none⟩), .agg #[.int .u8 (a.kind : Int), .int .i64 a.sec, .int .i64 a.num, .slice a.bA a.bn a.bc, .slice a.kA a.kn a.kc]] w fun e w' =>
      e = .returned (.int .i64 E) ∧ ∃ F', Both w0 w' d r F' p m2 m' := by
  have hd := do_of h.dk.disk a ((ha.below h.dk.bel).more h.dk.bel.size) (h.dk.vs ha.keep) (by omega) (by omega)
  unfold actV at hd
  rw [hact] at hd
  refine hd.mono fun e w' ⟨h1, h2, h3⟩ => ⟨h1, _, h.dk.step h2 h3, h.rd.mod h3 h.apart, h.low, fun i hi hg => ?_⟩
  rcases hg with hg | hg
  · exact h.apart i hi hg
  · have := h.rd.2 i hi
    omega
theorem Both.same_ (h : Both w0 w d r F p m m') (a : Act5) (ha : a.Ok w0 w0.heap.size) (hn : a.bn ≤ 200) (hfew : m'.waits.length ≤ 1000) {E : Int} (hact : m'.act a.kind a.sec a.num a.bl a.kl = (E, m2)) :
    Calls Try.prog 9 #[.pointer (some ⟨r, 0, none⟩), .agg #[.int .u8 (a.kind : Int), .int .i64 a.sec, .int .i64 a.num, .slice a.bA a.bn a.bc, .slice a.kA a.kn a.kc]] w fun e w' =>
      e = .returned (.int .i64 E) ∧ ∃ p', Both w0 w' d r F p' m m2 := by
  have hk : 0 < a.kn → Off (fun i => p i ≠ 0) a.kA := fun hn q hq hf => by
    obtain ⟨g, o, e, hg, _⟩ := ha.keep.rd hn
    rw [e] at hq
    injection hq with hq
    subst hq
    have h1 := h.low _ hf
    have hg' : g < w0.heap.size := hg
    have h2 : w0.heap.size ≤ g := h1
    omega
  have hd := rsame_of h.rd a ((ha.below h.dk.bel).more h.dk.bel.size) hk hn (by omega)
  rw [hact] at hd
  refine hd.mono fun e w' ⟨h1, p', h2, h3, h4⟩ => ⟨h1, p', h.dk.mod h3 (fun i hf hp => h.apart i hp hf) h.low, h2, fun i hi => ?_, fun i hi hf => ?_⟩
  · rcases h4 i hi with h5 | h5
    · exact h.low i h5
    · exact Nat.le_trans h.dk.bel.size h5
  · rcases h4 i hi with h5 | h5
    · exact h.apart i h5 hf
    · have := h.dk.disk.lt i hf
      omega
/-- What the law reads of the document's disk itself. -/
theorem Both.heads (h : Both w0 w d r F p m m') {N : Nat} {b4 b5 : Bool} (hN : m'.waits.length = N) (h4 : m'.down = b4) (h5 : m'.dead = b5) : ∃ A c, w.cell? ⟨r, 3, none⟩ = some (.slice A N c) ∧ w.cell? ⟨r, 4, none⟩ = some (.bool b4) ∧ w.cell? ⟨r, 5, none⟩ = some (.bool b5) := by
  subst hN h4 h5
  obtain ⟨⟨q, hq⟩, _⟩ := h.rd
  obtain ⟨⟨_, _, _, d3, d4, d5, _⟩, _⟩ := hq.head.cells
  have hpl : ∃ A c, q.pv = .slice A m'.waits.length c := by
    obtain ⟨A, c, e, _, _⟩ := own_form2 hq.pen
    exact ⟨A, c, e⟩
  obtain ⟨A, c, e⟩ := hpl
  rw [e] at d3
  exact ⟨A, c, d3, d4, d5⟩
theorem Both.new {w1 w2 : World} {n : Nat} (hx : Ext w0 w) (hp : PDisk w1 d (fun k => w.heap.size ≤ k ∧ k < w1.heap.size) (DM.new n)) (hx1 : Ext w w1) (hr : RD w2 r p (DM.new n)) (hl : ∀ k, p k ≠ 0 → w1.heap.size ≤ k) (hx2 : Ext w1 w2) : Both w0 w2 d r (fun k => w.heap.size ≤ k ∧ k < w1.heap.size) p (DM.new n) (DM.new n) :=
  ⟨DK.ext ⟨hp, fun k hk => Nat.le_trans hx.size hk.1, hx.trans hx1⟩ hx2, hr, fun i hi => Nat.le_trans (hx.trans hx1).size (hl i hi), fun i hi hf => by have := hl i hi; omega⟩
end
end Go.Proofs.Ytldgamgdbneneaa
