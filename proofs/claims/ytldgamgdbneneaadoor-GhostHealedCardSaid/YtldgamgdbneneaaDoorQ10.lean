/-
  Lists of ghost's acts (a bool, a tag, a list of bytes, an act of a disk) that came in, opened: what their cells hold.
  What a call leaves alone that writes in blocks of its own: all that was there but the blocks of F; no program.
  Plain facts on rows of bytes of which some bits are turned about, without any program.
-/
import Derived.Test.YtldgamgdbneneaaDoorQ01
import Derived.Test.YtldgamgdbneneaaDoorQ03
import Derived.Test.YtldgamgdbneneaaDoorQ09
namespace Go.Proofs.YtldgamgdbneneaaDoor
set_option maxRecDepth 100000
open Go Go.RowKit Go.ChangeShapes Go.WideShapes Go.Deep

/-- An act: is a frame written; its tag; its body; else an act of a disk. -/
structure Act6 where
  sl : Bool := false
  ta : Int := 0
  tb : Int := 0
  tc : Int := 0
  td : Int := 0
  te : Int := 0
  bA : Option Addr := none
  bn : Nat := 0
  bc : Nat := 0
  bl : List Nat := []
  act : Act5 := {}
instance : Inhabited Act6 := ⟨{}⟩
def Act6.cells (x : Act6) : List Value := [.bool x.sl, .int .i64 x.ta, .int .i64 x.tb, .int .i64 x.tc, .int .i64 x.td, .int .i64 x.te, .slice x.bA x.bn x.bc, .int .u8 (x.act.kind : Int), .int .i64 x.act.sec, .int .i64 x.act.num, .slice x.act.bA x.act.bn x.act.bc, .slice x.act.kA x.act.kn x.act.kc]
structure Act6.Ok (x : Act6) (w : World) (B : Nat) : Prop where
  body : Bs w B x.bA x.bn x.bc x.bl
  act : x.act.Ok w B
theorem Act6.Ok.below {a : Act6} {w w' : World} {B : Nat} (h : a.Ok w B) (hb : Below B w w') : a.Ok w' B := ⟨h.body.below hb, h.act.below hb⟩
theorem Act6.Ok.more {a : Act6} {w : World} {B B' : Nat} (h : a.Ok w B) (hB : B ≤ B') : a.Ok w B' := ⟨h.body.more hB, h.act.more hB⟩

structure Acts6 (w : World) (B : Nat) (A : Option Addr) (n c : Nat) (l : List Act6) : Prop where
  len : l.length = n
  cap : n ≤ c
  most : c ≤ 9223372036854775807
  each : ∀ a ∈ l, a.Ok w B
  rd : 0 < n → ∃ g o, A = some ⟨g, o, none⟩ ∧ g < B ∧ ∀ j a, l[j]? = some a → ∀ k v, a.cells[k]? = some v → w.cell? ⟨g, o + (j * 12 + k), none⟩ = some v
  nil_ : A = none → c = 0
theorem Acts6.below {w w' : World} {B : Nat} {A : Option Addr} {n c : Nat} {l : List Act6} (h : Acts6 w B A n c l) (hb : Below B w w') : Acts6 w' B A n c l :=
  ⟨h.len, h.cap, h.most, fun a ha => (h.each a ha).below hb, fun hn => by
    obtain ⟨g, o, e, hg, hc⟩ := h.rd hn
    exact ⟨g, o, e, hg, fun j a ha k v hv => (hb.cell (p := ⟨g, o + (j * 12 + k), none⟩) hg).trans (hc j a ha k v hv)⟩, h.nil_⟩
theorem Acts6.more {w : World} {B B' : Nat} {A : Option Addr} {n c : Nat} {l : List Act6} (h : Acts6 w B A n c l) (hB : B ≤ B') : Acts6 w B' A n c l :=
  ⟨h.len, h.cap, h.most, fun a ha => (h.each a ha).more hB, fun hn => by
    obtain ⟨g, o, e, hg, hc⟩ := h.rd hn
    exact ⟨g, o, e, by omega, hc⟩, h.nil_⟩
/-- The cells of the act at a place of the list. -/
def Cells12 (w : World) (g o : Nat) (x : Act6) : Prop :=
  w.cell? ⟨g, o, none⟩ = some (.bool x.sl) ∧ w.cell? ⟨g, o + 1, none⟩ = some (.int .i64 x.ta) ∧ w.cell? ⟨g, o + 2, none⟩ = some (.int .i64 x.tb) ∧ w.cell? ⟨g, o + 3, none⟩ = some (.int .i64 x.tc) ∧ w.cell? ⟨g, o + 4, none⟩ = some (.int .i64 x.td) ∧ w.cell? ⟨g, o + 5, none⟩ = some (.int .i64 x.te) ∧
  w.cell? ⟨g, o + 6, none⟩ = some (.slice x.bA x.bn x.bc) ∧ w.cell? ⟨g, o + 7, none⟩ = some (.int .u8 (x.act.kind : Int)) ∧ w.cell? ⟨g, o + 8, none⟩ = some (.int .i64 x.act.sec) ∧ w.cell? ⟨g, o + 9, none⟩ = some (.int .i64 x.act.num) ∧
  w.cell? ⟨g, o + 10, none⟩ = some (.slice x.act.bA x.act.bn x.act.bc) ∧ w.cell? ⟨g, o + 11, none⟩ = some (.slice x.act.kA x.act.kn x.act.kc)
theorem Cells12.below {w w' : World} {B g o : Nat} {x : Act6} (h : Cells12 w g o x) (hb : Below B w w') (hg : g < B) : Cells12 w' g o x := by
  obtain ⟨h0, h1, h2, h3, h4, h5, h6, h7, h8, h9, h10, h11⟩ := h
  exact ⟨(hb.cell (p := ⟨g, o, none⟩) hg).trans h0, (hb.cell (p := ⟨g, o + 1, none⟩) hg).trans h1, (hb.cell (p := ⟨g, o + 2, none⟩) hg).trans h2, (hb.cell (p := ⟨g, o + 3, none⟩) hg).trans h3, (hb.cell (p := ⟨g, o + 4, none⟩) hg).trans h4, (hb.cell (p := ⟨g, o + 5, none⟩) hg).trans h5,
    (hb.cell (p := ⟨g, o + 6, none⟩) hg).trans h6, (hb.cell (p := ⟨g, o + 7, none⟩) hg).trans h7, (hb.cell (p := ⟨g, o + 8, none⟩) hg).trans h8, (hb.cell (p := ⟨g, o + 9, none⟩) hg).trans h9, (hb.cell (p := ⟨g, o + 10, none⟩) hg).trans h10, (hb.cell (p := ⟨g, o + 11, none⟩) hg).trans h11⟩
theorem Acts6.at_ {w : World} {B : Nat} {A : Option Addr} {n c : Nat} {l : List Act6} (h : Acts6 w B A n c l) {j : Nat} (hj : j < n) : ∃ g o a, A = some ⟨g, o, none⟩ ∧ g < B ∧ l[j]? = some a ∧ a.Ok w B ∧ Cells12 w g (o + j * 12) a := by
  obtain ⟨g, o, e, hg, hc⟩ := h.rd (by omega)
  have hj' : j < l.length := by rw [h.len]; exact hj
  have ha : l[j]? = some l[j] := List.getElem?_eq_getElem hj'
  have cell := fun (k : Nat) (v : Value) (hv : (l[j]).cells[k]? = some v) => hc j _ ha k v hv
  exact ⟨g, o, l[j], e, hg, ha, h.each _ (List.getElem_mem hj'), cell 0 _ rfl, cell 1 _ rfl, cell 2 _ rfl, cell 3 _ rfl, cell 4 _ rfl, cell 5 _ rfl, cell 6 _ rfl, cell 7 _ rfl, cell 8 _ rfl, cell 9 _ rfl, cell 10 _ rfl, cell 11 _ rfl⟩

section
variable {H : Type} {enc : TypeId × Value → H} {P : Program} {w : World} {base : Nat} {spare : Nat → Bool} {held : Bool}

structure Act6Ty (P : Program) (e tq tt ta t8 ti tb tk e8 eb : TypeId) : Prop where
  fs : ∃ f0 f1 f2 f3 : Field, P.underlying e = some (.struct #[f0, f1, f2, f3]) ∧ (f0.type = tq ∧ f0.offset = 0) ∧ (f1.type = tt ∧ f1.offset = 1) ∧ (f2.type = tb ∧ f2.offset = 6) ∧ (f3.type = ta ∧ f3.offset = 7)
  ts : ∃ f0 f1 f2 f3 f4 : Field, P.underlying tt = some (.struct #[f0, f1, f2, f3, f4]) ∧ (f0.type = ti ∧ f0.offset = 0) ∧ (f1.type = ti ∧ f1.offset = 1) ∧ (f2.type = ti ∧ f2.offset = 2) ∧ (f3.type = ti ∧ f3.offset = 3) ∧ (f4.type = ti ∧ f4.offset = 4)
  cells : P.cellsOf e = 12
  tcells : P.cellsOf tt = 5
  qcells : P.cellsOf tq = 1
  bool : P.underlying tq = some .bool
  act : ActTy P ta t8 ti tb tk e8 eb

theorem trod_tag {tt ti : TypeId} (hs : ∃ f0 f1 f2 f3 f4 : Field, P.underlying tt = some (.struct #[f0, f1, f2, f3, f4]) ∧ (f0.type = ti ∧ f0.offset = 0) ∧ (f1.type = ti ∧ f1.offset = 1) ∧ (f2.type = ti ∧ f2.offset = 2) ∧ (f3.type = ti ∧ f3.offset = 3) ∧ (f4.type = ti ∧ f4.offset = 4))
    (hcl5 : P.cellsOf tt = 5) (hc1 : P.cellsOf ti = 1) (hi : P.underlying ti = some (.int .i64)) {fuel : Nat} {cs : List Value} {x : DataW H × List MemPlace} (h : DataW.trod enc P w base spare held fuel tt cs = some x) : ∃ a b c d e : Int, cs = [.int .i64 a, .int .i64 b, .int .i64 c, .int .i64 d, .int .i64 e] := by
  obtain ⟨f0, f1, f2, f3, f4, hs, ⟨y0, o0⟩, ⟨y1, o1⟩, ⟨y2, o2⟩, ⟨y3, o3⟩, y4, o4⟩ := hs
  obtain ⟨xs, n, _, _, hcl, hxl, hg⟩ := DataW.trod_struct hs h
  rw [hcl5] at hcl
  match cs, hcl, xs, hxl with
  | [c0, c1, c2, c3, c4], _, [x0, x1, x2, x3, x4], _ =>
    have g0 := hg 0 f0 rfl
    have g1 := hg 1 f1 rfl
    have g2 := hg 2 f2 rfl
    have g3 := hg 3 f3 rfl
    have g4 := hg 4 f4 rfl
    rw [y0, o0, hc1] at g0
    rw [y1, o1, hc1] at g1
    rw [y2, o2, hc1] at g2
    rw [y3, o3, hc1] at g3
    rw [y4, o4, hc1] at g4
    obtain ⟨a, e0, _, _⟩ := DataW.trod_int hi (show DataW.trod enc P w base spare held n ti [c0] = some x0 from g0)
    obtain ⟨b, e1, _, _⟩ := DataW.trod_int hi (show DataW.trod enc P w base spare held n ti [c1] = some x1 from g1)
    obtain ⟨c, e2, _, _⟩ := DataW.trod_int hi (show DataW.trod enc P w base spare held n ti [c2] = some x2 from g2)
    obtain ⟨d, e3, _, _⟩ := DataW.trod_int hi (show DataW.trod enc P w base spare held n ti [c3] = some x3 from g3)
    obtain ⟨e, e4, _, _⟩ := DataW.trod_int hi (show DataW.trod enc P w base spare held n ti [c4] = some x4 from g4)
    injection e0 with e0 _
    injection e1 with e1 _
    injection e2 with e2 _
    injection e3 with e3 _
    injection e4 with e4 _
    exact ⟨a, b, c, d, e, by rw [e0, e1, e2, e3, e4]⟩

theorem trod_act6 {e tq tt ta t8 ti tb tk e8 eb : TypeId} (T : Act6Ty P e tq tt ta t8 ti tb tk e8 eb) (hsp : ∀ g, spare g = true) {fuel : Nat} {cs : List Value} {x : DataW H × List MemPlace} (h : DataW.trod enc P w base spare held fuel e cs = some x) : ∃ a : Act6, cs = a.cells ∧ a.Ok w w.heap.size := by
  obtain ⟨f0, f1, f2, f3, hs, ⟨y0, o0⟩, ⟨y1, o1⟩, ⟨y2, o2⟩, y3, o3⟩ := T.fs
  obtain ⟨xs, n, _, _, hcl, hxl, hg⟩ := DataW.trod_struct hs h
  rw [T.cells] at hcl
  match cs, hcl, xs, hxl with
  | [c0, c1, c2, c3, c4, c5, c6, c7, c8, c9, c10, c11], _, [x0, x1, x2, x3], _ =>
    have g0 := hg 0 f0 rfl
    have g1 := hg 1 f1 rfl
    have g2 := hg 2 f2 rfl
    have g3 := hg 3 f3 rfl
    rw [y0, o0, T.qcells] at g0
    rw [y1, o1, T.tcells] at g1
    rw [y2, o2, T.act.one.2.2.1] at g2
    rw [y3, o3, T.act.cells] at g3
    obtain ⟨q, e0, _⟩ := DataW.trod_bool T.bool (show DataW.trod enc P w base spare held n tq [c0] = some x0 from g0)
    obtain ⟨a, b, c, d, e, e1⟩ := trod_tag T.ts T.tcells T.act.one.2.1 T.act.i64 (show DataW.trod enc P w base spare held n tt [c1, c2, c3, c4, c5] = some x1 from g1)
    obtain ⟨bA, bn, bc, bl, e2, hb⟩ := trod_bytes T.act.bytes.1 T.act.bytes.2.1 T.act.bytes.2.2 hsp (show DataW.trod enc P w base spare held n tb [c6] = some x2 from g2)
    obtain ⟨y, e3, hy⟩ := trod_act T.act hsp (show DataW.trod enc P w base spare held n ta [c7, c8, c9, c10, c11] = some x3 from g3)
    injection e0 with e0 _
    injection e1 with e1 e1'
    injection e1' with e12 e1'
    injection e1' with e13 e1'
    injection e1' with e14 e1'
    injection e1' with e15 _
    injection e2 with e2 _
    unfold Act5.cells at e3
    injection e3 with e31 e3
    injection e3 with e32 e3
    injection e3 with e33 e3
    injection e3 with e34 e3
    injection e3 with e35 _
    refine ⟨{ sl := q, ta := a, tb := b, tc := c, td := d, te := e, bA := bA, bn := bn, bc := bc, bl := bl, act := y }, ?_, ⟨hb, hy⟩⟩
    rw [e0, e1, e12, e13, e14, e15, e2, e31, e32, e33, e34, e35]
    rfl

theorem trod_acts6 {t e tq tt ta t8 ti tb tk e8 eb : TypeId} (ht : P.underlying t = some (.slice e)) (T : Act6Ty P e tq tt ta t8 ti tb tk e8 eb) (hsp : ∀ g, spare g = true) {fuel : Nat} {cs : List Value} {x : DataW H × List MemPlace} (h : DataW.trod enc P w base spare held fuel t cs = some x) :
    ∃ (A : Option Addr) (n c : Nat) (l : List Act6), cs = [.slice A n c] ∧ Acts6 w w.heap.size A n c l := by
  rcases open_slice ht h with ⟨rfl, _⟩ | ⟨a, len, cap, m, n, D, Pl, rfl, _, hl, hm, hmm, _, hi⟩
  · exact ⟨none, 0, 0, [], rfl, rfl, Nat.le_refl _, by omega, fun a ha => (by cases ha), fun h => absurd h (by omega), fun _ => rfl⟩
  · have hle : len ≤ m := by rw [hmm]; split <;> omega
    have each : ∀ i, i < len → ∃ b : Act6, (∀ k v, b.cells[k]? = some v → w.cell? ((a.add (i * 12)).add k) = some v) ∧ b.Ok w w.heap.size := fun i hil => by
      obtain ⟨cs', h1, h2⟩ := hi i (by omega)
      rw [T.cells] at h1
      obtain ⟨_, _, hcell⟩ := World.cells?_some h1
      obtain ⟨b, rfl, hb⟩ := trod_act6 T hsp h2
      refine ⟨b, fun k v hv => ?_, hb⟩
      have hk5 : k < 12 := (List.getElem?_eq_some_iff.1 hv).1
      rw [hcell k hk5, hv]
    obtain ⟨f, hf⟩ := choose_lt each
    refine ⟨some a, len, cap, (List.range len).map f, rfl, by simp, hl, by unfold maxLen at hm; exact hm, fun b hb => ?_, fun hn => ?_, fun h => by cases h⟩
    · obtain ⟨i, hil, rfl⟩ := List.mem_map.1 hb
      exact (hf i (List.mem_range.1 hil)).2
    · obtain ⟨g, o, spot⟩ := a
      have hc := (hf 0 hn).1 0 _ rfl
      have hspot : spot = none := by simpa [Addr.add] using World.cell?_spot hc
      subst hspot
      refine ⟨g, o, rfl, ?_, fun j b hb k v hv => ?_⟩
      · have := World.block_lt_of_cell? w _ hc
        simpa [Addr.add] using this
      · rw [List.getElem?_map] at hb
        obtain ⟨i, hi2, rfl⟩ := Option.map_eq_some_iff.1 hb
        obtain ⟨hjl, hji⟩ := List.getElem?_eq_some_iff.1 hi2
        simp at hjl hji
        subst hji
        have := (hf j hjl).1 k v hv
        rw [Addr.add_lit, Addr.add_lit, Nat.add_assoc] at this
        exact this

theorem open_acts6 {t e tq tt ta t8 ti tb tk e8 eb : TypeId} (ht : P.underlying t = some (.slice e)) (T : Act6Ty P e tq tt ta t8 ti tb tk e8 eb) {r : Reach} {b0 : Nat} {v : Value} {d : DataW H} {p : List MemPlace}
    (hv : Value.okWide P w r b0 t v) (h : DataW.Trod enc P w base (fun _ => true) held t v d p) : ∃ (A : Option Addr) (n c : Nat) (l : List Act6), v = .slice A n c ∧ Acts6 w w.heap.size A n c l := by
  obtain ⟨A, n, c, rfl⟩ := okWide_slice ht hv
  obtain ⟨fuel, hf⟩ := h
  obtain ⟨A', n', c', l, hcs, hl⟩ := trod_acts6 ht T (fun _ => rfl) hf
  simp [Value.cells] at hcs
  obtain ⟨rfl, rfl, rfl⟩ := hcs
  exact ⟨_, _, _, l, rfl, hl⟩
end
end Go.Proofs.YtldgamgdbneneaaDoor

namespace Go.Proofs.YtldgamgdbneneaaDoor
set_option maxRecDepth 100000
open Go Go.RowKit

/-- All blocks that were there, but those of F, are as they were. -/
structure Mod (F : Nat → Prop) (w w' : World) : Prop where
  os : w'.os = w.os
  tape : w'.tape = w.tape
  output : w'.output = w.output
  size : w.heap.size ≤ w'.heap.size
  block : ∀ k, k < w.heap.size → ¬ F k → w'.heap[k]? = w.heap[k]?
section
variable {F G : Nat → Prop} {a b c w w' : World}
theorem Mod.refl (F : Nat → Prop) (w : World) : Mod F w w := ⟨rfl, rfl, rfl, Nat.le_refl _, fun _ _ _ => rfl⟩
theorem Mod.trans (h : Mod F a b) (k : Mod G b c) (hG : ∀ i, G i → F i ∨ a.heap.size ≤ i) : Mod F a c :=
  ⟨k.os.trans h.os, k.tape.trans h.tape, k.output.trans h.output, Nat.le_trans h.size k.size, fun i hi hf =>
    (k.block i (Nat.lt_of_lt_of_le hi h.size) fun hg => (hG i hg).elim hf fun hl => absurd hi (by omega)).trans (h.block i hi hf)⟩
theorem Mod.of_ext (h : Ext w w') : Mod F w w' := ⟨h.os, h.tape, h.output, h.size, fun k hk _ => h.block k hk⟩
theorem Mod.ext (h : Mod F a b) (k : Ext b c) : Mod F a c := h.trans (F := F) (G := F) (Mod.of_ext k) fun _ hi => .inl hi
theorem Mod.mono (h : Mod F w w') (hG : ∀ i, F i → G i) : Mod G w w' := ⟨h.os, h.tape, h.output, h.size, fun k hk hg => h.block k hk fun hf => hg (hG k hf)⟩
theorem Mod.alloc (h : Mod F a b) (o : Obj) : Mod F a (b.alloc o) := h.ext ((Ext.refl b).alloc o)
theorem Mod.drew (h : Mod F a b) : Mod F a b.drew := h.ext (Ext.refl b).drew
theorem Mod.drewN (h : Mod F a b) (n : Nat) : Mod F a (b.drewN n) := h.ext ((Ext.refl b).drewN n)
theorem Mod.setCell (h : Mod F a b) {p : Addr} (hp : F p.block ∨ a.heap.size ≤ p.block) (v : Value) : Mod F a (b.setCell p v) :=
  ⟨h.os, h.tape, h.output, Nat.le_trans h.size (by simp [World.setCell]), fun k hk hf => (Below.heap_setCell _ _ _ _ (fun e => by
    subst e
    exact hp.elim hf fun hl => absurd hk (by omega))).trans (h.block k hk hf)⟩
theorem Mod.setCells (h : Mod F a b) (g o : Nat) (vs : List Value) (hp : F g ∨ a.heap.size ≤ g) : Mod F a (b.setCells g o vs) := by
  induction vs generalizing b o with
  | nil => exact h
  | cons v r ih => exact ih (h.setCell (p := ⟨g, o, none⟩) hp v) (o + 1)
theorem Mod.grown {row : Option Nat} (h : Mod F a b) (hg : b.grownBy c row) (hr : ∀ k, row = some k → F k ∨ a.heap.size ≤ k) : Mod F a c :=
  ⟨hg.os.trans h.os, hg.tape.trans h.tape, hg.output.trans h.output, Nat.le_trans h.size hg.size, fun k hk hf =>
    (hg.block k (Nat.lt_of_lt_of_le hk h.size) (fun e => (hr k e.symm).elim hf fun hl => absurd hk (by omega))).trans (h.block k hk hf)⟩
/-- A call's own blocks alone were written: nothing that was there. -/
theorem Mod.to_ext (h : Mod F w w') (hF : ∀ i, F i → w.heap.size ≤ i) : Ext w w' := ⟨h.os, h.tape, h.output, h.size, fun k hk => h.block k hk fun hf => absurd (hF k hf) (by omega)⟩
/-- Since an earlier world: the blocks of F were made since. -/
theorem Below.mod {B : Nat} (h : Below B a b) (k : Mod F b c) (hB : B ≤ b.heap.size) (hF : ∀ i, F i → B ≤ i) : Below B a c :=
  h.trans ⟨k.os, k.tape, k.output, k.size, fun i hi => k.block i (by omega) fun hf => absurd (hF i hf) (by omega)⟩
/-- A slice that lies in none of the blocks of F. -/
def Off (F : Nat → Prop) (A : Option Addr) : Prop := ∀ p, A = some p → ¬ F p.block
theorem Bs.mod {B : Nat} {A : Option Addr} {n cp : Nat} {l : List Nat} (h : Bs w B A n cp l) (k : Mod F w w') (hB : B ≤ w.heap.size) (ho : Off F A) : Bs w' B A n cp l :=
  ⟨h.len, h.cap, h.most, ⟨h.rd.1, fun hn => by
    obtain ⟨g, o, e, hg, hc⟩ := h.rd.2 hn
    refine ⟨g, o, e, hg, fun j x hx => ?_⟩
    rw [← hc j x hx]
    exact World.cell?_of_block (a := ⟨g, o + j, none⟩) (k.block g (by omega) (ho _ e))⟩, h.nil_⟩
theorem By.mod {A : Option Addr} {n cp : Nat} {l : List Nat} (h : By w A n cp l) (k : Mod F w w') (ho : Off F A) : By w' A n cp l := (Bs.mod h k (Nat.le_refl _) ho).more k.size
theorem heap_mod {g : Nat} {o : Obj} (h : w.heap[g]? = some o) (k : Mod F w w') (hg : ¬ F g) : w'.heap[g]? = some o := (k.block g (Array.getElem?_eq_some_iff.1 h).1 hg).trans h
theorem own_mod {base e size n : Nat} {v : Value} {xs : List Value} (h : w.ownsRow base e size v n xs) (k : Mod F w w') (hv : ∀ i, v.ownBlock = some i → ¬ F i) : w'.ownsRow base e size v n xs := by
  refine ⟨h.1, ?_⟩
  rcases h.2 with h0 | ⟨g, cap, cur, rfl, hb, hg, h1⟩
  · exact .inl h0
  · exact .inr ⟨g, cap, cur, rfl, hb, heap_mod hg k (hv g rfl), h1⟩
end
end Go.Proofs.YtldgamgdbneneaaDoor

namespace Go.Proofs.YtldgamgdbneneaaDoor
set_option maxRecDepth 100000
open Go

def flipB : List Nat → Nat → List Nat
  | [], _ => []
  | x :: l, p => if p < 8 then (x ^^^ 2 ^ p) :: l else x :: flipB l (p - 8)
theorem flipB_length (l : List Nat) (p : Nat) : (flipB l p).length = l.length := by
  induction l generalizing p with
  | nil => rfl
  | cons x l ih =>
    simp only [flipB]
    split
    · rfl
    · simp [ih]
theorem flipB_lt {l : List Nat} (p : Nat) (hl : ∀ x ∈ l, x < 256) : ∀ x ∈ flipB l p, x < 256 := by
  induction l generalizing p with
  | nil => intro x hx; cases hx
  | cons y l ih =>
    intro x hx
    simp only [flipB] at hx
    split at hx
    · rename_i hp
      rcases List.mem_cons.1 hx with rfl | hx
      · have : 2 ^ p < 2 ^ 8 := Nat.pow_lt_pow_right (by omega) hp
        exact Nat.xor_lt_two_pow (n := 8) (hl y (by simp)) this
      · exact hl x (by simp [hx])
    · rcases List.mem_cons.1 hx with rfl | hx
      · exact hl x (by simp)
      · exact ih (p - 8) (fun z hz => hl z (by simp [hz])) x hx
theorem flipB_set {l : List Nat} {p x : Nat} (h : l[p / 8]? = some x) : flipB l p = l.set (p / 8) (x ^^^ 2 ^ (p % 8)) := by
  induction l generalizing p with
  | nil => cases h
  | cons y l ih =>
    simp only [flipB]
    split
    · rename_i hp
      rw [show p / 8 = 0 by omega] at h ⊢
      simp at h
      subst h
      rw [show p % 8 = p by omega]
      rfl
    · rename_i hp
      rw [show p / 8 = (p - 8) / 8 + 1 by omega] at h ⊢
      rw [List.getElem?_cons_succ] at h
      rw [ih h, List.set_cons_succ, show (p - 8) % 8 = p % 8 by omega]
theorem flipB_twice (l : List Nat) (p : Nat) : flipB (flipB l p) p = l := by
  induction l generalizing p with
  | nil => rfl
  | cons x l ih =>
    by_cases hp : p < 8
    · simp only [flipB, if_pos hp]
      rw [Nat.xor_assoc, Nat.xor_self, Nat.xor_zero]
    · simp only [flipB, if_neg hp, ih]
theorem stps_bit {k m : Nat} (h : k ≤ m) : stps m (2 ^ k) = stps (m - k) 1 := by
  have e : m = k + (m - k) := by omega
  conv => lhs; rw [e, stps_add]
  have := stps_pow k 1
  rw [Nat.mul_one] at this
  rw [this]
theorem flipB_feed {l : List Nat} {p : Nat} (r : Nat) (hp : p < 8 * l.length) : feed r (flipB l p) = feed r l ^^^ stps (8 * l.length - p) 1 := by
  induction l generalizing r p with
  | nil => simp at hp
  | cons x l ih =>
    simp only [flipB]
    split
    · rename_i h8
      simp only [feed]
      have e : inb r (x ^^^ 2 ^ p) = inb r x ^^^ stps 8 (2 ^ p) := by
        unfold inb
        rw [← stps_xor, Nat.xor_assoc]
      rw [e, feed_shift, stps_bit (by omega : p ≤ 8), ← stps_add, List.length_cons, show 8 * (l.length + 1) - p = 8 - p + 8 * l.length by omega]
    · rename_i h8
      simp only [feed]
      rw [ih _ (by simp only [List.length_cons] at hp; omega), List.length_cons, show 8 * (l.length + 1) - p = 8 * l.length - (p - 8) by omega]

theorem crcS_diff {l m : List Nat} {d : Nat} (hl : ∀ b ∈ l, b < 256) (hm : ∀ b ∈ m, b < 256) (h : feed 4294967295 m = feed 4294967295 l ^^^ d) (he : crcS l = crcS m) : d = 0 := by
  have h1 : feed 4294967295 l = feed 4294967295 m := inv_inj (feed_lt (by omega) hl) (feed_lt (by omega) hm) he
  rw [h1] at h
  have h2 : feed 4294967295 m ^^^ feed 4294967295 m = feed 4294967295 m ^^^ (feed 4294967295 m ^^^ d) := by rw [← h]
  rw [← Nat.xor_assoc, Nat.xor_self, Nat.zero_xor] at h2
  exact h2.symm

/-- So many bits from a place on, those that a number names. -/
def flipN : List Nat → Nat → Nat → Nat → List Nat
  | l, _, _, 0 => l
  | l, p, w, k + 1 => if w / 2 ^ k % 2 = 1 then flipB (flipN l p w k) (p + k) else flipN l p w k
theorem flipN_length (l : List Nat) (p w k : Nat) : (flipN l p w k).length = l.length := by
  induction k with
  | zero => rfl
  | succ k ih =>
    simp only [flipN]
    split
    · rw [flipB_length, ih]
    · exact ih
theorem flipN_lt {l : List Nat} (p w k : Nat) (hl : ∀ x ∈ l, x < 256) : ∀ x ∈ flipN l p w k, x < 256 := by
  induction k with
  | zero => exact hl
  | succ k ih =>
    simp only [flipN]
    split
    · exact flipB_lt _ ih
    · exact ih
theorem pow_xor_mod (w k : Nat) (h : w / 2 ^ k % 2 = 1) : w % 2 ^ (k + 1) = w % 2 ^ k ^^^ 2 ^ k := by
  have e := split_xor k (w % 2 ^ (k + 1))
  rw [Nat.mod_pow_succ, h, Nat.mul_one] at e ⊢
  have h1 : w % 2 ^ k < 2 ^ k := Nat.mod_lt _ (Nat.two_pow_pos k)
  rw [Nat.add_mod_right, Nat.mod_eq_of_lt h1, Nat.add_div_right _ (Nat.two_pow_pos k), Nat.div_eq_of_lt h1, Nat.mul_one] at e
  rw [Nat.xor_comm]
  exact e
theorem flipN_feed {l : List Nat} {p w k : Nat} (hp : p + k ≤ 8 * l.length) : feed 4294967295 (flipN l p w k) = feed 4294967295 l ^^^ stps (8 * l.length - p) (w % 2 ^ k) := by
  induction k with
  | zero => simp [flipN, Nat.mod_one, stps_zero]
  | succ k ih =>
    have ih := ih (by omega)
    simp only [flipN]
    rcases Nat.mod_two_eq_zero_or_one (w / 2 ^ k) with h | h
    · rw [if_neg (by omega), ih, Nat.mod_pow_succ, h, Nat.mul_zero, Nat.add_zero]
    · rw [if_pos h, flipB_feed _ (by rw [flipN_length]; omega), ih, flipN_length, pow_xor_mod w k h, stps_xor, stps_bit (by omega : k ≤ 8 * l.length - p), Nat.xor_assoc, show 8 * l.length - p - k = 8 * l.length - (p + k) by omega]
theorem near_ne {l : List Nat} {p w : Nat} (hl : ∀ x ∈ l, x < 256) (hp : p + 32 ≤ 8 * l.length) (hw : w < 4294967296) (h0 : w ≠ 0) : crcS l ≠ crcS (flipN l p w 32) := by
  intro he
  have h1 := crcS_diff hl (flipN_lt p w 32 hl) (flipN_feed hp) he
  rw [show 2 ^ 32 = 4294967296 from rfl, Nat.mod_eq_of_lt hw] at h1
  exact h0 (stps_nz hw h1)

/-- Which powers of x are 1: none up to 12,000. -/
def walk1 : Nat → Nat → Bool
  | 0, _ => true
  | k + 1, r => (r != 1) && walk1 k (stp r)
theorem walk1_get {k r : Nat} (h : walk1 k r = true) (j : Nat) (hj : j < k) : stps j r ≠ 1 := by
  induction k generalizing r j with
  | zero => omega
  | succ k ih =>
    simp only [walk1, Bool.and_eq_true, bne_iff_ne, ne_eq] at h
    cases j with
    | zero => exact h.1
    | succ j => exact ih h.2 j (by omega)
end Go.Proofs.YtldgamgdbneneaaDoor
