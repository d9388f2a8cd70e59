/-
  Lists of ghost's acts (a bool, a tag, a list of bytes, an act of a disk) that came in, opened: what their cells hold.
  The contract of the statements' Sector: what an act writes.
  The contract of the statements' Do: an act at the program's disk.
  The contracts of the statements' reads and Great; a disk since a world.
  The contract of the statements' Great; a round of Do over a list of acts that came in.
  The contract of the frame statements' own first look at the chapter's examples: it answers true and writes nothing that was there.
  The contract of the document's own shifting of a bit.
  The contracts of the document's own checksum: bytes.
  The contract of the document's own Seal.
  The contracts of the ghost statements' wide and Great; what an act does to a disk, in plain words.
  The contract of the statements' own 'sealed': a frame in one sector or in two, and whether there is one.
-/
import Derived.Test.YtlikhmhomkiadaaDoorQ01
import Derived.Test.YtlikhmhomkiadaaDoorQ02
import Derived.Test.YtlikhmhomkiadaaDoorQ06
import Derived.Test.YtlikhmhomkiadaaDoorQ07
import Derived.Test.YtlikhmhomkiadaaDoorQ10
import Derived.Test.YtlikhmhomkiadaaDoorQ11
import Derived.Test.YtlikhmhomkiadaaDoorQ14
import Derived.Test.YtlikhmhomkiadaaDoorQ16
import Derived.Test.YtlikhmhomkiadaaDoorQ21
import Derived.Test.YtlikhmhomkiadaaDoorQ23
import Derived.Laws.AppendOwnNone
import Derived.Laws.OwnMore
import Derived.Deep.RegionHeld3
import Derived.Test.YtlikhmhomkiadaaDoorProg
import Derived.WalkKit
import Derived.WalkSpells
import Derived.BigQuiet
import Derived.Lib.Hide
import Derived.Laws.BitsAllLaws
namespace Go.Proofs.YtlikhmhomkiadaaDoor
set_option maxRecDepth 100000
open Go Go.RowKit Go.ChangeShapes Go.WideShapes Go.Deep

/-- An act: is a frame written; its tag; its body; else an act of a disk. -/
structure Act6 where
  sl : Bool := false
  ta : Int := 0
  tb : Int := 0
  tc : Int := 0
  td : Int := 0
  te : Int := 0
  bA : Option Addr := none
  bn : Nat := 0
  bc : Nat := 0
  bl : List Nat := []
  act : Act5 := {}
instance : Inhabited Act6 := ⟨{}⟩
def Act6.cells (x : Act6) : List Value := [.bool x.sl, .int .i64 x.ta, .int .i64 x.tb, .int .i64 x.tc, .int .i64 x.td, .int .i64 x.te, .slice x.bA x.bn x.bc, .int .u8 (x.act.kind : Int), .int .i64 x.act.sec, .int .i64 x.act.num, .slice x.act.bA x.act.bn x.act.bc, .slice x.act.kA x.act.kn x.act.kc]
structure Act6.Ok (x : Act6) (w : World) (B : Nat) : Prop where
  body : Bs w B x.bA x.bn x.bc x.bl
  act : x.act.Ok w B
theorem Act6.Ok.below {a : Act6} {w w' : World} {B : Nat} (h : a.Ok w B) (hb : Below B w w') : a.Ok w' B := ⟨h.body.below hb, h.act.below hb⟩
theorem Act6.Ok.more {a : Act6} {w : World} {B B' : Nat} (h : a.Ok w B) (hB : B ≤ B') : a.Ok w B' := ⟨h.body.more hB, h.act.more hB⟩

structure Acts6 (w : World) (B : Nat) (A : Option Addr) (n c : Nat) (l : List Act6) : Prop where
  len : l.length = n
  cap : n ≤ c
  most : c ≤ 9223372036854775807
  each : ∀ a ∈ l, a.Ok w B
  rd : 0 < n → ∃ g o, A = some ⟨g, o, none⟩ ∧ g < B ∧ ∀ j a, l[j]? = some a → ∀ k v, a.cells[k]? = some v → w.cell? ⟨g, o + (j * 12 + k), none⟩ = some v
  nil_ : A = none → c = 0
theorem Acts6.below {w w' : World} {B : Nat} {A : Option Addr} {n c : Nat} {l : List Act6} (h : Acts6 w B A n c l) (hb : Below B w w') : Acts6 w' B A n c l :=
  ⟨h.len, h.cap, h.most, fun a ha => (h.each a ha).below hb, fun hn => by
    obtain ⟨g, o, e, hg, hc⟩ := h.rd hn
    exact ⟨g, o, e, hg, fun j a ha k v hv => (hb.cell (p := ⟨g, o + (j * 12 + k), none⟩) hg).trans (hc j a ha k v hv)⟩, h.nil_⟩
theorem Acts6.more {w : World} {B B' : Nat} {A : Option Addr} {n c : Nat} {l : List Act6} (h : Acts6 w B A n c l) (hB : B ≤ B') : Acts6 w B' A n c l :=
  ⟨h.len, h.cap, h.most, fun a ha => (h.each a ha).more hB, fun hn => by
    obtain ⟨g, o, e, hg, hc⟩ := h.rd hn
    exact ⟨g, o, e, by omega, hc⟩, h.nil_⟩
/-- The cells of the act at a place of the list. -/
def Cells12 (w : World) (g o : Nat) (x : Act6) : Prop :=
  w.cell? ⟨g, o, none⟩ = some (.bool x.sl) ∧ w.cell? ⟨g, o + 1, none⟩ = some (.int .i64 x.ta) ∧ w.cell? ⟨g, o + 2, none⟩ = some (.int .i64 x.tb) ∧ w.cell? ⟨g, o + 3, none⟩ = some (.int .i64 x.tc) ∧ w.cell? ⟨g, o + 4, none⟩ = some (.int .i64 x.td) ∧ w.cell? ⟨g, o + 5, none⟩ = some (.int .i64 x.te) ∧
  w.cell? ⟨g, o + 6, none⟩ = some (.slice x.bA x.bn x.bc) ∧ w.cell? ⟨g, o + 7, none⟩ = some (.int .u8 (x.act.kind : Int)) ∧ w.cell? ⟨g, o + 8, none⟩ = some (.int .i64 x.act.sec) ∧ w.cell? ⟨g, o + 9, none⟩ = some (.int .i64 x.act.num) ∧
  w.cell? ⟨g, o + 10, none⟩ = some (.slice x.act.bA x.act.bn x.act.bc) ∧ w.cell? ⟨g, o + 11, none⟩ = some (.slice x.act.kA x.act.kn x.act.kc)
theorem Cells12.below {w w' : World} {B g o : Nat} {x : Act6} (h : Cells12 w g o x) (hb : Below B w w') (hg : g < B) : Cells12 w' g o x := by
  obtain ⟨h0, h1, h2, h3, h4, h5, h6, h7, h8, h9, h10, h11⟩ := h
  exact ⟨(hb.cell (p := ⟨g, o, none⟩) hg).trans h0, (hb.cell (p := ⟨g, o + 1, none⟩) hg).trans h1, (hb.cell (p := ⟨g, o + 2, none⟩) hg).trans h2, (hb.cell (p := ⟨g, o + 3, none⟩) hg).trans h3, (hb.cell (p := ⟨g, o + 4, none⟩) hg).trans h4, (hb.cell (p := ⟨g, o + 5, none⟩) hg).trans h5,
    (hb.cell (p := ⟨g, o + 6, none⟩) hg).trans h6, (hb.cell (p := ⟨g, o + 7, none⟩) hg).trans h7, (hb.cell (p := ⟨g, o + 8, none⟩) hg).trans h8, (hb.cell (p := ⟨g, o + 9, none⟩) hg).trans h9, (hb.cell (p := ⟨g, o + 10, none⟩) hg).trans h10, (hb.cell (p := ⟨g, o + 11, none⟩) hg).trans h11⟩
theorem Acts6.at_ {w : World} {B : Nat} {A : Option Addr} {n c : Nat} {l : List Act6} (h : Acts6 w B A n c l) {j : Nat} (hj : j < n) : ∃ g o a, A = some ⟨g, o, none⟩ ∧ g < B ∧ l[j]? = some a ∧ a.Ok w B ∧ Cells12 w g (o + j * 12) a := by
  obtain ⟨g, o, e, hg, hc⟩ := h.rd (by omega)
  have hj' : j < l.length := by rw [h.len]; exact hj
  have ha : l[j]? = some l[j] := List.getElem?_eq_getElem hj'
  have cell := fun (k : Nat) (v : Value) (hv : (l[j]).cells[k]? = some v) => hc j _ ha k v hv
  exact ⟨g, o, l[j], e, hg, ha, h.each _ (List.getElem_mem hj'), cell 0 _ rfl, cell 1 _ rfl, cell 2 _ rfl, cell 3 _ rfl, cell 4 _ rfl, cell 5 _ rfl, cell 6 _ rfl, cell 7 _ rfl, cell 8 _ rfl, cell 9 _ rfl, cell 10 _ rfl, cell 11 _ rfl⟩

section
variable {H : Type} {enc : TypeId × Value → H} {P : Program} {w : World} {base : Nat} {spare : Nat → Bool} {held : Bool}

structure Act6Ty (P : Program) (e tq tt ta t8 ti tb tk e8 eb : TypeId) : Prop where
  fs : ∃ f0 f1 f2 f3 : Field, P.underlying e = some (.struct #[f0, f1, f2, f3]) ∧ (f0.type = tq ∧ f0.offset = 0) ∧ (f1.type = tt ∧ f1.offset = 1) ∧ (f2.type = tb ∧ f2.offset = 6) ∧ (f3.type = ta ∧ f3.offset = 7)
  ts : ∃ f0 f1 f2 f3 f4 : Field, P.underlying tt = some (.struct #[f0, f1, f2, f3, f4]) ∧ (f0.type = ti ∧ f0.offset = 0) ∧ (f1.type = ti ∧ f1.offset = 1) ∧ (f2.type = ti ∧ f2.offset = 2) ∧ (f3.type = ti ∧ f3.offset = 3) ∧ (f4.type = ti ∧ f4.offset = 4)
  cells : P.cellsOf e = 12
  tcells : P.cellsOf tt = 5
  qcells : P.cellsOf tq = 1
  bool : P.underlying tq = some .bool
  act : ActTy P ta t8 ti tb tk e8 eb

theorem trod_tag {tt ti : TypeId} (hs : ∃ f0 f1 f2 f3 f4 : Field, P.underlying tt = some (.struct #[f0, f1, f2, f3, f4]) ∧ (f0.type = ti ∧ f0.offset = 0) ∧ (f1.type = ti ∧ f1.offset = 1) ∧ (f2.type = ti ∧ f2.offset = 2) ∧ (f3.type = ti ∧ f3.offset = 3) ∧ (f4.type = ti ∧ f4.offset = 4))
    (hcl5 : P.cellsOf tt = 5) (hc1 : P.cellsOf ti = 1) (hi : P.underlying ti = some (.int .i64)) {fuel : Nat} {cs : List Value} {x : DataW H × List MemPlace} (h : DataW.trod enc P w base spare held fuel tt cs = some x) : ∃ a b c d e : Int, cs = [.int .i64 a, .int .i64 b, .int .i64 c, .int .i64 d, .int .i64 e] := by
  obtain ⟨f0, f1, f2, f3, f4, hs, ⟨y0, o0⟩, ⟨y1, o1⟩, ⟨y2, o2⟩, ⟨y3, o3⟩, y4, o4⟩ := hs
  obtain ⟨xs, n, _, _, hcl, hxl, hg⟩ := DataW.trod_struct hs h
  rw [hcl5] at hcl
  match cs, hcl, xs, hxl with
  | [c0, c1, c2, c3, c4], _, [x0, x1, x2, x3, x4], _ =>
    have g0 := hg 0 f0 rfl
    have g1 := hg 1 f1 rfl
    have g2 := hg 2 f2 rfl
    have g3 := hg 3 f3 rfl
    have g4 := hg 4 f4 rfl
    rw [y0, o0, hc1] at g0
    rw [y1, o1, hc1] at g1
    rw [y2, o2, hc1] at g2
    rw [y3, o3, hc1] at g3
    rw [y4, o4, hc1] at g4
    obtain ⟨a, e0, _, _⟩ := DataW.trod_int hi (show DataW.trod enc P w base spare held n ti [c0] = some x0 from g0)
    obtain ⟨b, e1, _, _⟩ := DataW.trod_int hi (show DataW.trod enc P w base spare held n ti [c1] = some x1 from g1)
    obtain ⟨c, e2, _, _⟩ := DataW.trod_int hi (show DataW.trod enc P w base spare held n ti [c2] = some x2 from g2)
    obtain ⟨d, e3, _, _⟩ := DataW.trod_int hi (show DataW.trod enc P w base spare held n ti [c3] = some x3 from g3)
    obtain ⟨e, e4, _, _⟩ := DataW.trod_int hi (show DataW.trod enc P w base spare held n ti [c4] = some x4 from g4)
    injection e0 with e0 _
    injection e1 with e1 _
    injection e2 with e2 _
    injection e3 with e3 _
    injection e4 with e4 _
    exact ⟨a, b, c, d, e, by rw [e0, e1, e2, e3, e4]⟩

theorem trod_act6 {e tq tt ta t8 ti tb tk e8 eb : TypeId} (T : Act6Ty P e tq tt ta t8 ti tb tk e8 eb) (hsp : ∀ g, spare g = true) {fuel : Nat} {cs : List Value} {x : DataW H × List MemPlace} (h : DataW.trod enc P w base spare held fuel e cs = some x) : ∃ a : Act6, cs = a.cells ∧ a.Ok w w.heap.size := by
  obtain ⟨f0, f1, f2, f3, hs, ⟨y0, o0⟩, ⟨y1, o1⟩, ⟨y2, o2⟩, y3, o3⟩ := T.fs
  obtain ⟨xs, n, _, _, hcl, hxl, hg⟩ := DataW.trod_struct hs h
  rw [T.cells] at hcl
  match cs, hcl, xs, hxl with
  | [c0, c1, c2, c3, c4, c5, c6, c7, c8, c9, c10, c11], _, [x0, x1, x2, x3], _ =>
    have g0 := hg 0 f0 rfl
    have g1 := hg 1 f1 rfl
    have g2 := hg 2 f2 rfl
    have g3 := hg 3 f3 rfl
    rw [y0, o0, T.qcells] at g0
    rw [y1, o1, T.tcells] at g1
    rw [y2, o2, T.act.one.2.2.1] at g2
    rw [y3, o3, T.act.cells] at g3
    obtain ⟨q, e0, _⟩ := DataW.trod_bool T.bool (show DataW.trod enc P w base spare held n tq [c0] = some x0 from g0)
    obtain ⟨a, b, c, d, e, e1⟩ := trod_tag T.ts T.tcells T.act.one.2.1 T.act.i64 (show DataW.trod enc P w base spare held n tt [c1, c2, c3, c4, c5] = some x1 from g1)
    obtain ⟨bA, bn, bc, bl, e2, hb⟩ := trod_bytes T.act.bytes.1 T.act.bytes.2.1 T.act.bytes.2.2 hsp (show DataW.trod enc P w base spare held n tb [c6] = some x2 from g2)
    obtain ⟨y, e3, hy⟩ := trod_act T.act hsp (show DataW.trod enc P w base spare held n ta [c7, c8, c9, c10, c11] = some x3 from g3)
    injection e0 with e0 _
    injection e1 with e1 e1'
    injection e1' with e12 e1'
    injection e1' with e13 e1'
    injection e1' with e14 e1'
    injection e1' with e15 _
    injection e2 with e2 _
    unfold Act5.cells at e3
    injection e3 with e31 e3
    injection e3 with e32 e3
    injection e3 with e33 e3
    injection e3 with e34 e3
    injection e3 with e35 _
    refine ⟨{ sl := q, ta := a, tb := b, tc := c, td := d, te := e, bA := bA, bn := bn, bc := bc, bl := bl, act := y }, ?_, ⟨hb, hy⟩⟩
    rw [e0, e1, e12, e13, e14, e15, e2, e31, e32, e33, e34, e35]
    rfl

theorem trod_acts6 {t e tq tt ta t8 ti tb tk e8 eb : TypeId} (ht : P.underlying t = some (.slice e)) (T : Act6Ty P e tq tt ta t8 ti tb tk e8 eb) (hsp : ∀ g, spare g = true) {fuel : Nat} {cs : List Value} {x : DataW H × List MemPlace} (h : DataW.trod enc P w base spare held fuel t cs = some x) :
    ∃ (A : Option Addr) (n c : Nat) (l : List Act6), cs = [.slice A n c] ∧ Acts6 w w.heap.size A n c l := by
  rcases open_slice ht h with ⟨rfl, _⟩ | ⟨a, len, cap, m, n, D, Pl, rfl, _, hl, hm, hmm, _, hi⟩
  · exact ⟨none, 0, 0, [], rfl, rfl, Nat.le_refl _, by omega, fun a ha => (by cases ha), fun h => absurd h (by omega), fun _ => rfl⟩
  · have hle : len ≤ m := by rw [hmm]; split <;> omega
    have each : ∀ i, i < len → ∃ b : Act6, (∀ k v, b.cells[k]? = some v → w.cell? ((a.add (i * 12)).add k) = some v) ∧ b.Ok w w.heap.size := fun i hil => by
      obtain ⟨cs', h1, h2⟩ := hi i (by omega)
      rw [T.cells] at h1
      obtain ⟨_, _, hcell⟩ := World.cells?_some h1
      obtain ⟨b, rfl, hb⟩ := trod_act6 T hsp h2
      refine ⟨b, fun k v hv => ?_, hb⟩
      have hk5 : k < 12 := (List.getElem?_eq_some_iff.1 hv).1
      rw [hcell k hk5, hv]
    obtain ⟨f, hf⟩ := choose_lt each
    refine ⟨some a, len, cap, (List.range len).map f, rfl, by simp, hl, by unfold maxLen at hm; exact hm, fun b hb => ?_, fun hn => ?_, fun h => by cases h⟩
    · obtain ⟨i, hil, rfl⟩ := List.mem_map.1 hb
      exact (hf i (List.mem_range.1 hil)).2
    · obtain ⟨g, o, spot⟩ := a
      have hc := (hf 0 hn).1 0 _ rfl
      have hspot : spot = none := by simpa [Addr.add] using World.cell?_spot hc
      subst hspot
      refine ⟨g, o, rfl, ?_, fun j b hb k v hv => ?_⟩
      · have := World.block_lt_of_cell? w _ hc
        simpa [Addr.add] using this
      · rw [List.getElem?_map] at hb
        obtain ⟨i, hi2, rfl⟩ := Option.map_eq_some_iff.1 hb
        obtain ⟨hjl, hji⟩ := List.getElem?_eq_some_iff.1 hi2
        simp at hjl hji
        subst hji
        have := (hf j hjl).1 k v hv
        rw [Addr.add_lit, Addr.add_lit, Nat.add_assoc] at this
        exact this

theorem open_acts6 {t e tq tt ta t8 ti tb tk e8 eb : TypeId} (ht : P.underlying t = some (.slice e)) (T : Act6Ty P e tq tt ta t8 ti tb tk e8 eb) {r : Reach} {b0 : Nat} {v : Value} {d : DataW H} {p : List MemPlace}
    (hv : Value.okWide P w r b0 t v) (h : DataW.Trod enc P w base (fun _ => true) held t v d p) : ∃ (A : Option Addr) (n c : Nat) (l : List Act6), v = .slice A n c ∧ Acts6 w w.heap.size A n c l := by
  obtain ⟨A, n, c, rfl⟩ := okWide_slice ht hv
  obtain ⟨fuel, hf⟩ := h
  obtain ⟨A', n', c', l, hcs, hl⟩ := trod_acts6 ht T (fun _ => rfl) hf
  simp [Value.cells] at hcs
  obtain ⟨rfl, rfl, rfl⟩ := hcs
  exact ⟨_, _, _, l, rfl, hl⟩
end
end Go.Proofs.YtlikhmhomkiadaaDoor

namespace Go.Proofs.YtlikhmhomkiadaaDoor
set_option maxRecDepth 100000
open Go Go.RowKit

def actV (a : Act5) : Value := .agg #[.int .u8 (a.kind : Int), .int .i64 a.sec, .int .i64 a.num, .slice a.bA a.bn a.bc, .slice a.kA a.kn a.kc]
theorem vb_rep (k x : Nat) : vb (List.replicate k x) = List.replicate k (.int .u8 (x : Int)) := by simp [vb]
theorem own_base5 {w : World} {b b' n : Nat} {e : TypeId} {s : Nat} {v : Value} {xs : List Value} (h : w.ownsRow b e s v n xs) (hb : b' ≤ b) : w.ownsRow b' e s v n xs := by
  refine ⟨h.1, ?_⟩
  rcases h.2 with h0 | ⟨g, cap, cur, hv, hbg, h1⟩
  · exact .inl h0
  · exact .inr ⟨g, cap, cur, hv, Nat.le_trans hb hbg, h1⟩
end Go.Proofs.YtlikhmhomkiadaaDoor

namespace Go.Proofs.YtlikhmhomkiadaaDoor
set_option maxRecDepth 100000
open Go Go.RowKit

theorem PDisk.wide {w : World} {d : Nat} {F G : Nat → Prop} {m : DM} (h : PDisk w d F m) (hF : ∀ k, F k → G k) (hG : ∀ k, G k → k < w.heap.size) : PDisk w d G m := by
  obtain ⟨g, pv, h1, h2, _⟩ := h
  exact ⟨g, pv, h1, fun k hk => hF k (h2 k hk), hG⟩
theorem Off.mono {F G : Nat → Prop} {A : Option Addr} (h : Off G A) (hF : ∀ k, F k → G k) : Off F A := fun p hp hf => h p hp (hF _ hf)
/-- Behind steps that wrote none of its blocks, and one that was the disk's: the whole call's. -/
theorem outc_of {w w1 w2 w3 : World} {d : Nat} {F : Nat → Prop} {m' : DM} (hF : ∀ k, F k → k < w.heap.size) (h1 : Ext w w1) (h2 : PDisk w2 d (grow F w1 w2) m') (h3 : Mod F w1 w2) (h4 : Mod (fun k => w.heap.size ≤ k ∧ k < w1.heap.size) w2 w3) : PDisk w3 d (grow F w w3) m' ∧ Mod F w w3 := by
  refine ⟨(h2.mod h4 fun i hi hl => ?_).wide (fun k hk => ?_) (fun k hk => ?_), ((Mod.of_ext h1).then h3).trans h4 fun i hi => .inr hi.1⟩
  · rcases hi with hi | hi
    · have := hF i hi; omega
    · omega
  · rcases hk with hk | hk
    · exact .inl hk
    · exact .inr ⟨Nat.le_trans h1.size hk.1, Nat.lt_of_lt_of_le hk.2 h4.size⟩
  · rcases hk with hk | hk
    · exact Nat.lt_of_lt_of_le (hF k hk) (Nat.le_trans h1.size (Nat.le_trans h3.size h4.size))
    · exact hk.2
theorem Act5.Ok.ext {a : Act5} {w w' : World} (h : a.Ok w w.heap.size) (k : Ext w w') : a.Ok w' w'.heap.size := (h.below k).more k.size

/-- What an act does, by the rest of its kind. -/
def actR (m : DM) (r : Nat) (sec num : Int) (bl : List Nat) (kl : List Bool) : Int × DM :=
  match r with
  | 0 => m.flush
  | 1 => m.crash kl
  | 2 => m.start
  | 3 => m.flip sec num
  | 4 => m.lose sec
  | 5 => m.stray sec num
  | 8 => m.setPower num
  | _ => m.write sec (actB num bl)
theorem act_actR (m : DM) (kind r : Nat) (h : kind % 9 = r) (sec num : Int) (bl : List Nat) (kl : List Bool) : m.act kind sec num bl kl = actR m r sec num bl kl := by
  subst h
  rfl
end Go.Proofs.YtlikhmhomkiadaaDoor

namespace Go.Proofs.YtlikhmhomkiadaaDoor
set_option maxRecDepth 100000
open Go Go.RowKit

/-- The disk at d, all of whose blocks were made since w0; nothing that was there in w0 has been written. -/
structure DK (w0 w : World) (d : Nat) (F : Nat → Prop) (m : DM) : Prop where
  disk : PDisk w d F m
  low : ∀ k, F k → w0.heap.size ≤ k
  bel : Ext w0 w
theorem DK.ext {w0 w w' : World} {d : Nat} {F : Nat → Prop} {m : DM} (h : DK w0 w d F m) (k : Ext w w') : DK w0 w' d F m := ⟨h.disk.ext k, h.low, h.bel.trans k⟩
theorem DK.step {w0 w w' : World} {d : Nat} {F : Nat → Prop} {m m' : DM} (h : DK w0 w d F m) (hp : PDisk w' d (grow F w w') m') (hm : Mod F w w') : DK w0 w' d (grow F w w') m' :=
  ⟨hp, fun k hk => hk.elim (h.low k) fun h2 => Nat.le_trans h.bel.size h2.1, Below.mod h.bel hm h.bel.size h.low⟩
theorem DK.mod {w0 w w' : World} {d : Nat} {F G : Nat → Prop} {m : DM} (h : DK w0 w d F m) (hm : Mod G w w') (hG : ∀ k, F k → ¬ G k) (hl : ∀ k, G k → w0.heap.size ≤ k) : DK w0 w' d F m :=
  ⟨h.disk.mod hm hG, h.low, Below.mod h.bel hm h.bel.size hl⟩
theorem DK.fresh {w0 w : World} {d : Nat} {F : Nat → Prop} {m : DM} (h : DK w0 w d F m) {w' : World} {A : Option Addr} {n c : Nat} {e sz : Nat} {xs : List Value} (ho : w'.ownsRow w.heap.size e sz (.slice A n c) n xs) : Off F A := fun p hp hf => by
  subst hp
  have := (ho.lt p.block rfl).1
  have := h.disk.lt _ hf
  omega
/-- Values that came in lie in none of the disk's blocks. -/
theorem DK.vs {w0 w : World} {d : Nat} {F : Nat → Prop} {m : DM} (h : DK w0 w d F m) {A : Option Addr} {n c : Nat} {vs : List Value} (hv : Vs w0 w0.heap.size A n c vs) : 0 < n → Off F A := fun hn p hp hf => by
  obtain ⟨g, o, e, hg, _⟩ := hv.rd hn
  rw [e] at hp
  injection hp with hp
  subst hp
  have := h.low _ hf
  have hg' : g < w0.heap.size := hg
  have : w0.heap.size ≤ g := this
  omega
/-- What was there in w0 lies in none of the disk's blocks. -/
theorem DK.old {w0 w : World} {d : Nat} {F : Nat → Prop} {m : DM} (h : DK w0 w d F m) {A : Option Addr} (hA : ∀ p, A = some p → p.block < w0.heap.size) : Off F A := fun p hp hf => by
  have := hA p hp
  have := h.low _ hf
  omega
theorem Act5.sector (n : Int) (w : World) (B : Nat) (hn : (Lit.int .i64 n).wf = true) : ({ num := n } : Act5).Ok w B :=
  ⟨by show (0 : Nat) < 256; omega, rfl, hn, ⟨rfl, Nat.le_refl _, by show (0 : Nat) ≤ 9223372036854775807; omega, Rd.nil_, fun _ => rfl⟩, ⟨rfl, Nat.le_refl _, by show (0 : Nat) ≤ 9223372036854775807; omega, fun h => absurd h (by show ¬ (0 < 0); omega), fun _ => rfl⟩⟩
theorem rep_of (x : Nat) (hx : x < 256) : actB (x : Int) [] = List.replicate 64 x := by
  unfold actB
  rw [if_pos rfl]
  congr 1
  omega
theorem nat_wf (x : Nat) (hx : x < 256) : (Lit.int .i64 (x : Int)).wf = true := by
  have h1 : (IntKind.i64.min : Int) ≤ (x : Int) := by rw [show (IntKind.i64.min : Int) = -9223372036854775808 by decide]; omega
  have h2 : (x : Int) ≤ IntKind.i64.max := by rw [IntKind.max_i64]; omega
  show (decide (IntKind.i64.min ≤ (x : Int)) && decide ((x : Int) ≤ IntKind.i64.max)) = true
  rw [decide_eq_true h1, decide_eq_true h2]
  rfl
end Go.Proofs.YtlikhmhomkiadaaDoor

namespace Go.Proofs.YtlikhmhomkiadaaDoor
set_option maxRecDepth 100000
open Go Go.RowKit
/-- What Great answers. -/
def GreatE (n : Nat) (l : List Act5) (w : World) (e : Ending) (w' : World) : Prop := ∃ b : Bool, e = .returned (.bool b) ∧ w = w' ∧ (b = false → n ≤ 120 ∧ ∀ a ∈ l, a.bn ≤ 200 ∧ a.kn ≤ 100)

end Go.Proofs.YtlikhmhomkiadaaDoor

namespace Go.Proofs.YtlikhmhomkiadaaDoor
set_option maxRecDepth 100000
open Go Go.RowKit

/-- The chapter's frame: what is asked of it. -/
def exF : List Nat := sealL 1 4 47 258 3 [7] 2
theorem exF_len : exF.length = 128 := by decide +kernel
theorem exF_e : sealE 1 4 47 258 3 1 2 = 0 := by decide
theorem exF_head : exF.take 18 = [1, 0, 1, 4, 47, 2, 1, 0, 0, 0, 0, 3, 0, 0, 0, 0, 0, 7] := by decide +kernel
theorem exF_pad : (exF.drop 18).take 106 = List.replicate 106 0 := by decide +kernel
theorem exF_good : goodB exF = true := by decide +kernel
theorem exF_index : ofl exF 3 = 258 := by decide +kernel
theorem exF_body : obl exF = [7] := by decide +kernel

theorem u8_size (w : World) : (sizeOf (Tryd.prog.elem 26)).run Tryd.prog w = .ok 1 w := by
  have ht : Tryd.prog.elem 26 = 5 := by kernel_rfl
  obtain ⟨i0, hi, _, hz1, _⟩ := info_parts byte_info
  rw [ht]
  simp [Go.sizeOf, typeInfo, hi, hz1]
theorem cut_to (A : Option Addr) (n cp h : Nat) (hh : h ≤ cp) (w : World) : (Instr.slice 26 (.slice A n cp) none (some (.int .i64 (h : Int))) none).run Tryd.prog w = .ok (.slice A h cp) w := by
  have ht : Tryd.prog.elem 26 = 5 := by kernel_rfl
  rw [run_slice_h w 26 A n cp (by rw [ht]; exact Tryd.underlying26) .i64 (h : Int) (by omega) (by omega), u8_size]
  simp only [Result.andThen, sliced, Int.toNat_natCast, Nat.sub_zero]
  cases A with
  | none => simp
  | some a => simp [Addr.add]
theorem cut_mid (g o n cp l h : Nat) (hl : l < cp) (hlh : l ≤ h) (hh : h ≤ cp) (w : World) : (Instr.slice 26 (.slice (some ⟨g, o, none⟩) n cp) (some (.int .i64 (l : Int))) (some (.int .i64 (h : Int))) none).run Tryd.prog w = .ok (.slice (some ⟨g, o + l, none⟩) (h - l) (cp - l)) w := by
  have ht : Tryd.prog.elem 26 = 5 := by kernel_rfl
  rw [run_slice_lh w 26 (some ⟨g, o, none⟩) n cp (by rw [ht]; exact Tryd.underlying26) .i64 .i64 (l : Int) (h : Int) (by omega) (by omega) (by omega), u8_size]
  simp only [Result.andThen, sliced, Int.toNat_natCast, Nat.mul_one]
  rw [if_neg (by omega)]
  simp [Addr.add]

/-- A new row of zero bytes. -/
def zrow (k : Nat) : Obj := .cells (madeCells #[.int .u8 0] k) 5
theorem mk_zeros (k : Nat) (hk : k ≤ 1000) (w : World) : (Instr.makeSlice 26 (.int .i64 (k : Int)) (.int .i64 (k : Int))).run Tryd.prog w = .ok (.slice (some ⟨w.heap.size, 0, none⟩) k k) (w.alloc (zrow k)) := by
  obtain ⟨i0, hi, hz0, hz1, hz2⟩ := info_parts byte_info
  rw [run_make w 26 5 i0 (.int .u8 0) Tryd.underlying26 hi hz0 .i64 .i64 (k : Int) (k : Int) (by omega) (Int.le_refl _) (by rw [hz2]; omega) (by omega), hz1, Int.toNat_natCast, Nat.mul_one]
  rfl
theorem By.zrow (w : World) (k : Nat) (hk : k ≤ 1000) : By (w.alloc (zrow k)) (some ⟨w.heap.size, 0, none⟩) k k (List.replicate k 0) := by
  refine By.of_row (heap_alloc_new w (.cells (madeCells #[.int .u8 0] k) 5)) (fun j x hx => ?_) (by intro b hb; rw [(List.mem_replicate.1 hb).2]; omega) (by simp) (Nat.le_refl _) (by omega)
  have e : (madeCells #[Value.int .u8 0] k).toList = List.replicate k (Value.int .u8 0) := toList_madeCells_one _ _
  rw [← Array.getElem?_toList, e]
  rw [List.getElem?_replicate] at hx ⊢
  split at hx
  · rename_i hj
    injection hx with hx
    subst hx
    rw [if_pos hj]
    rfl
  · cases hx

theorem By.zrow2 (w : World) (o : Obj) (k : Nat) (hk : k ≤ 1000) : By ((w.alloc o).alloc (Go.Proofs.YtlikhmhomkiadaaDoor.zrow k)) (some ⟨w.heap.size + 1, 0, none⟩) k k (List.replicate k 0) := by
  rw [show w.heap.size + 1 = (w.alloc o).heap.size from by simp]
  exact By.zrow _ k hk

end Go.Proofs.YtlikhmhomkiadaaDoor

namespace Go.Proofs.YtlikhmhomkiadaaDoor
set_option maxRecDepth 100000
open Go Go.RowKit
end Go.Proofs.YtlikhmhomkiadaaDoor

namespace Go.Proofs.YtlikhmhomkiadaaDoor
set_option maxRecDepth 100000
open Go Go.RowKit
end Go.Proofs.YtlikhmhomkiadaaDoor

namespace Go.Proofs.YtlikhmhomkiadaaDoor
set_option maxRecDepth 100000
open Go Go.RowKit
/-- A slice value's length. -/
def lenOf : Value → Nat
  | .slice _ n _ => n
  | _ => 0
theorem zeros_snoc (l : List Nat) (k : Nat) : l ++ List.replicate k 0 ++ [0] = l ++ List.replicate (k + 1) 0 := by
  rw [List.append_assoc, ← List.replicate_succ']

theorem own_lower {w : World} {b b' n : Nat} {e : TypeId} {s : Nat} {v : Value} {xs : List Value} (h : w.ownsRow b e s v n xs) (hb : b' ≤ b) : w.ownsRow b' e s v n xs := by
  refine ⟨h.1, ?_⟩
  rcases h.2 with h0 | ⟨g, cap, cur, hv, hbg, h1⟩
  · exact .inl h0
  · exact .inr ⟨g, cap, cur, hv, Nat.le_trans hb hbg, h1⟩
end Go.Proofs.YtlikhmhomkiadaaDoor

namespace Go.Proofs.YtlikhmhomkiadaaDoor
set_option maxRecDepth 100000
open Go Go.RowKit

/-- The sectors of a frame, written one behind the other. -/
def DM.puts (m : DM) (s : Int) (L : List Nat) : Nat → DM
  | 0 => m
  | k + 1 => ((m.puts s L k).write (s + (k : Int)) ((L.drop (64 * k)).take 64)).2
/-- How many sectors a tag's place has. -/
def wideN (a b c d e : Int) : Nat := if mayB a b c d e = true then wid b else 0
theorem wideN_le (a b c d e : Int) : wideN a b c d e ≤ 2 := by
  unfold wideN
  split
  · exact wid_le b
  · omega
def Act6.sE (x : Act6) : Int := sealE x.ta x.tb x.tc x.td x.te x.bn (wideN x.ta x.tb x.tc x.td x.te : Nat)
def Act6.sL (x : Act6) : List Nat := sealL x.ta x.tb x.tc x.td x.te x.bl (wideN x.ta x.tb x.tc x.td x.te : Nat)
/-- What an act makes of a disk. -/
def DM.act6 (m : DM) (x : Act6) : DM :=
  if x.sl = true then (if x.sE = 0 then m.puts (firstS x.tb x.tc) x.sL (wideN x.ta x.tb x.tc x.td x.te) else m) else (m.act x.act.kind x.act.sec x.act.num x.act.bl x.act.kl).2
theorem puts_waits (m : DM) (s : Int) (L : List Nat) (k : Nat) : (m.puts s L k).waits.length ≤ m.waits.length + k := by
  induction k with
  | zero => exact Nat.le_refl _
  | succ k ih =>
    unfold DM.puts DM.write
    split
    · show (m.puts s L k).waits.length ≤ _; omega
    · split
      · show (m.puts s L k).waits.length ≤ _; omega
      · split
        · show (m.puts s L k).waits.length ≤ _; omega
        · simp; omega
theorem act6_waits (m : DM) (x : Act6) : (m.act6 x).waits.length ≤ m.waits.length + 2 := by
  unfold DM.act6
  split
  · split
    · have h1 := puts_waits m (firstS x.tb x.tc) x.sL (wideN x.ta x.tb x.tc x.td x.te)
      have h2 := wideN_le x.ta x.tb x.tc x.td x.te
      omega
    · omega
  · have := act_waits m x.act.kind x.act.sec x.act.num x.act.bl x.act.kl
    omega

/-- What Great answers of ghost's acts. -/
def Great6E (n : Nat) (l : List Act6) (w : World) (e : Ending) (w' : World) : Prop := ∃ b : Bool, e = .returned (.bool b) ∧ Ext w w' ∧ (b = false → n ≤ 60 ∧ ∀ a ∈ l, a.bn ≤ 100 ∧ a.act.bn ≤ 200 ∧ a.act.kn ≤ 100)
end Go.Proofs.YtlikhmhomkiadaaDoor

namespace Go.Proofs.YtlikhmhomkiadaaDoor
set_option maxRecDepth 100000
open Go Go.RowKit

theorem sealE_zero {a b c d e s : Int} {n : Nat} : sealE a b c d e n s = 0 ↔ roomN s ≠ 0 ∧ mayB a b c d e = true ∧ n ≤ roomN s := by
  constructor
  · intro h
    by_cases h1 : roomN s = 0 ∨ mayB a b c d e = false
    · rw [sealE_arg h1] at h; cases h
    · have h0 : roomN s ≠ 0 := fun hh => h1 (.inl hh)
      have hm : mayB a b c d e = true := by
        by_cases hm : mayB a b c d e = true
        · exact hm
        · exact absurd (.inr (by simpa using hm)) h1
      refine ⟨h0, hm, ?_⟩
      rcases Nat.lt_or_ge (roomN s) n with h2 | h2
      · rw [sealE_long h0 hm h2] at h; cases h
      · exact h2
  · rintro ⟨h0, hm, hn⟩
    exact sealE_yes h0 hm hn
theorem sealL_len {a b c d e s : Int} {body : List Nat} (h : sealE a b c d e body.length s = 0) : (sealL a b c d e body s).length = 64 * s.toNat ∧ 1 ≤ s ∧ s ≤ 2 := by
  obtain ⟨h0, hm, hn⟩ := sealE_zero.1 h
  obtain ⟨S, rfl⟩ := Int.eq_ofNat_of_zero_le (show 0 ≤ s by have := roomN_pos (s := s) (by omega); omega)
  have hfit := room_fits hn (by omega)
  rw [sealL_yes h, Int.toNat_natCast, frameL_len (by rw [pl_yes hm, tagBytes_len]) (by omega) (by omega)]
  omega
theorem sealL_good {a b c d e s : Int} {body : List Nat} (h : sealE a b c d e body.length s = 0) : goodB (sealL a b c d e body s) = true ∧ obl (sealL a b c d e body s) = body ∧ (ofl (sealL a b c d e body s) 0 : Int) = a ∧ (ofl (sealL a b c d e body s) 1 : Int) = b ∧ (ofl (sealL a b c d e body s) 2 : Int) = c ∧ (ofl (sealL a b c d e body s) 3 : Int) = d ∧ (ofl (sealL a b c d e body s) 4 : Int) = e := by
  obtain ⟨h0, hm, hn⟩ := sealE_zero.1 h
  obtain ⟨S, rfl⟩ := Int.eq_ofNat_of_zero_le (show 0 ≤ s by have := roomN_pos (s := s) (by omega); omega)
  obtain ⟨a, b, c, d, e, rfl, rfl, rfl, rfl, rfl⟩ := may_nat hm
  have hb88 := roomN_le (S : Int)
  rw [sealL_yes h, Int.toNat_natCast, pl_yes hm]
  simp only [Int.toNat_natCast]
  have hg := seal_good (S := S) hm hn (by omega)
  have hr := (PV_tag hm).2
  rw [ofl_yes hg, ofl_yes hg, ofl_yes hg, ofl_yes hg, ofl_yes hg, obl_yes hg, read_tag (tagBytes_len a b c d e), read_body (tagBytes_len a b c d e) (by omega), hr 0 (by omega), hr 1 (by omega), hr 2 (by omega), hr 3 (by omega), hr 4 (by omega)]
  exact ⟨hg, rfl, rfl, rfl, rfl, rfl, rfl⟩
theorem sealL_lt {a b c d e s : Int} {body : List Nat} (hb : ∀ x ∈ body, x < 256) : ∀ x ∈ sealL a b c d e body s, x < 256 := by
  by_cases h : sealE a b c d e body.length s = 0
  · rw [sealL_yes h]
    refine frameL_lt hb ?_
    rw [pl_yes (sealE_zero.1 h).2.1]
    exact tagBytes_lt _ _ _ _ _
  · rw [sealL_no h]
    simp

/-- One sector or two. -/
def sS (two : Bool) : Int := if two then 2 else 1

end Go.Proofs.YtlikhmhomkiadaaDoor
