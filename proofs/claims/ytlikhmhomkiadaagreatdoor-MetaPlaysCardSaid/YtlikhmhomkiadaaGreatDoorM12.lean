/-
  What the row's listing of the four tables gives the walks, and that the program's own start meets it.
  Lists of ghost's acts (a bool, a tag, a list of bytes, an act of a disk) that came in, opened: what their cells hold.
  Ghost's door: its acts that came in, opened; the frame's door besides.
  Lists of structs that came in, opened, whatever their elements: what their cells hold. Metadata, ballots, and steps (a bool, a ballot, a small number, a list of bools) that came in.
  Lists of acts of the cells' and metadata's great statements (a kind; a number and bytes, or a ballot; an act of ghost's) that came in, opened.
  Metadata, ballots and steps that came in, opened, by the program's own types.
  The door of MetaPlays: its acts that came in, opened; metadata that came in; ghost's door besides.
-/
import Derived.Test.YtlikhmhomkiadaaGreatDoorM02
import Derived.Test.YtlikhmhomkiadaaGreatDoorM03
import Derived.Test.YtlikhmhomkiadaaGreatDoorM11
import Derived.Test.YtlikhmhomkiadaaGreatDoorRows
import Derived.ProofKit
import Derived.LaidMore
import Derived.Lib.LaidTab
import Derived.Stop.Joined
import Derived.Test.YtlikhmhomkiadaaGreatDoorProg
namespace Go.Proofs.YtlikhmhomkiadaaGreatDoor
set_option maxRecDepth 100000
open Go Go.ChangeShapes Go.WideShapes Go.ChangeAt Go.WideMaps Go.WideElems Go.RowKit Go.Deep

def laidList : List (String × DataW Unit) := [("sexton/crc.halves", Rows.laid_sexton_crc_halves), ("sexton/octet.bounds", Rows.laid_sexton_octet_bounds), ("sexton/tag.regions", Rows.laid_sexton_tag_regions), ("sexton/tag.widths", Rows.laid_sexton_tag_widths)]

theorem door_met (os : Os) (args : Array Value) : laidMetH Tryz.prog laidList ((World.doorLaid Tryz.prog 400 os).forCall (fun _ _ => 0) ⟨#[], args, []⟩).memory :=
  laidMetH_of_parts3 (fuel := 8) (laidMet_of_run' 8 (by kernel_rfl) (by kernel_rfl)) (by kernel_rfl) (by kernel_rfl)

theorem tag_fields (fs : Array Field) (hs : Tryz.prog.underlying 33 = some (.struct fs)) (j : Nat) (f : Field) (hf : fs[j]? = some f) : Tryz.prog.underlying f.type = some (.int .i64) := by
  rw [Tryz.underlying33] at hs
  injection hs with hs
  injection hs with hs
  subst hs
  match j, hf with
  | 0, hf => injection hf with hf; subst hf; exact Tryz.underlying3
  | 1, hf => injection hf with hf; subst hf; exact Tryz.underlying3
  | 2, hf => injection hf with hf; subst hf; exact Tryz.underlying3
  | 3, hf => injection hf with hf; subst hf; exact Tryz.underlying3
  | 4, hf => injection hf with hf; subst hf; exact Tryz.underlying3
  | (j + 5), hf => simp at hf
/-- A tag that came in, opened (the name is the frame's: open_t and the type's number). -/
theorem open_t33 {H : Type} {enc : TypeId × Value → H} {w : World} {base : Nat} {sp : Nat → Bool} {held : Bool} {r : Reach} {b0 : Nat} {v : Value} {d : DataW H} {p : List MemPlace}
    (hv : Value.okWide Tryz.prog w r b0 33 v) (h : DataW.Trod enc Tryz.prog w base sp held 33 v d p) : ∃ a b c d' e : Int, v = .agg #[.int .i64 a, .int .i64 b, .int .i64 c, .int .i64 d', .int .i64 e] :=
  open_agg5i Tryz.underlying33 (by kernel_rfl) (by kernel_rfl) (tag_fields _ Tryz.underlying33) rfl hv h

theorem laid_o {W : World} {rest : List (String × DataW Unit)} (h : laidMet Tryz.prog (("sexton/octet.bounds", Rows.laid_sexton_octet_bounds) :: rest) W) : Laid W := by
  have hg : Tryz.prog.globalNamed "sexton/octet.bounds" = some 2 := by kernel_rfl
  have ht : (Tryz.prog.globals[2]?).map (·.type) = some 229 := by kernel_rfl
  have hv : W.var? Tryz.prog "sexton/octet.bounds" = some (([0, 256, 65536, 0, 4294967296, 0, 281474976710656] : List Int).map fun z => Value.int .i64 z).toArray :=
    Lib.tabIs_of_head hg ht Tryz.underlying229 Tryz.underlying3 (by kernel_rfl) (by kernel_rfl) h
  have hc := fun i => World.var?_cell hg hv i
  exact ⟨hc 0, hc 1, hc 2, hc 3, hc 4, hc 5, hc 6⟩

theorem laid_t {W : World} {rest : List (String × DataW Unit)} (h : laidMet Tryz.prog (("sexton/tag.regions", Rows.laid_sexton_tag_regions) :: rest) W) : LaidT W := by
  have hg : Tryz.prog.globalNamed "sexton/tag.regions" = some 0 := by kernel_rfl
  have ht : (Tryz.prog.globals[0]?).map (·.type) = some 177 := by kernel_rfl
  have hc := tab2_of_head (k := .i64) (rows := [[0, 0], [2, 1], [2, 1], [24, 1], [48, 2], [16, 2]]) hg ht Tryz.underlying177 Tryz.underlying172 (by kernel_rfl) (by kernel_rfl)
    (fun j f hf => by
      match j, hf with
      | 0, hf => injection hf with hf; subst hf; exact Tryz.underlying3
      | 1, hf => injection hf with hf; subst hf; exact Tryz.underlying3
      | (j + 2), hf => simp at hf) h
  have row : ∀ (i : Nat) (a b : Int), ([[0, 0], [2, 1], [2, 1], [24, 1], [48, 2], [16, 2]] : List (List Int))[i]? = some [a, b] → W.cell? ⟨0, i * 2, none⟩ = some (.int .i64 a) ∧ W.cell? ⟨0, i * 2 + 1, none⟩ = some (.int .i64 b) := fun i a b hi => ⟨hc i [a, b] hi 0 a rfl, hc i [a, b] hi 1 b rfl⟩
  intro r hr
  have hj' : r = 0 ∨ r = 1 ∨ r = 2 ∨ r = 3 ∨ r = 4 ∨ r = 5 := by omega
  rcases hj' with rfl | rfl | rfl | rfl | rfl | rfl
  · exact row 0 0 0 rfl
  · exact row 1 2 1 rfl
  · exact row 2 2 1 rfl
  · exact row 3 24 1 rfl
  · exact row 4 48 2 rfl
  · exact row 5 16 2 rfl

theorem laid_w {W : World} {rest : List (String × DataW Unit)} (h : laidMet Tryz.prog (("sexton/tag.widths", Rows.laid_sexton_tag_widths) :: rest) W) : LaidW W := by
  have hg : Tryz.prog.globalNamed "sexton/tag.widths" = some 1 := by kernel_rfl
  have ht : (Tryz.prog.globals[1]?).map (·.type) = some 222 := by kernel_rfl
  have hv : W.var? Tryz.prog "sexton/tag.widths" = some (([1, 1, 1, 6, 6] : List Int).map fun z => Value.int .i64 z).toArray :=
    Lib.tabIs_of_head hg ht Tryz.underlying222 Tryz.underlying3 (by kernel_rfl) (by kernel_rfl) h
  have hc := fun i => World.var?_cell hg hv i
  intro k hk
  have hj' : k = 0 ∨ k = 1 ∨ k = 2 ∨ k = 3 ∨ k = 4 := by omega
  rcases hj' with rfl | rfl | rfl | rfl | rfl
  · exact hc 0
  · exact hc 1
  · exact hc 2
  · exact hc 3
  · exact hc 4

theorem laid_h {W : World} {rest : List (String × DataW Unit)} (h : laidMet Tryz.prog (("sexton/crc.halves", Rows.laid_sexton_crc_halves) :: rest) W) : LaidH W := by
  have hg : Tryz.prog.globalNamed "sexton/crc.halves" = some 4 := by kernel_rfl
  have ht : (Tryz.prog.globals[4]?).map (·.type) = some 231 := by kernel_rfl
  have hv : W.var? Tryz.prog "sexton/crc.halves" = some (([0, 274646895, 549293790, 820201905, 1098587580, 1361435347, 1640403810, 1905808397, 2197175160, 2460548119, 2722870694, 2987750089, 3280807620, 3553878443, 3811616794, 4084100981] : List Int).map fun z => Value.int .u32 z).toArray :=
    Lib.tabIs_of_head hg ht Tryz.underlying231 Tryz.underlying161 (by kernel_rfl) (by kernel_rfl) h
  have hc := fun i => World.var?_cell hg hv i
  intro i hi
  have e : ∀ j, j < 16 → ((([0, 274646895, 549293790, 820201905, 1098587580, 1361435347, 1640403810, 1905808397, 2197175160, 2460548119, 2722870694, 2987750089, 3280807620, 3553878443, 3811616794, 4084100981] : List Int).map fun z => Value.int .u32 z).toArray)[j]? = some (.int .u32 ((stps 4 j : Nat) : Int)) := by
    intro j hj
    have hj' : j = 0 ∨ j = 1 ∨ j = 2 ∨ j = 3 ∨ j = 4 ∨ j = 5 ∨ j = 6 ∨ j = 7 ∨ j = 8 ∨ j = 9 ∨ j = 10 ∨ j = 11 ∨ j = 12 ∨ j = 13 ∨ j = 14 ∨ j = 15 := by omega
    rcases hj' with rfl | rfl | rfl | rfl | rfl | rfl | rfl | rfl | rfl | rfl | rfl | rfl | rfl | rfl | rfl | rfl <;> rfl
  exact (hc i).trans (e i hi)

theorem laid_of {W : World} (h : laidMetH Tryz.prog laidList W) : LaidF W := by
  rw [MakeChecks.laidMetH_plain _ _ _ (by kernel_rfl)] at h
  exact ⟨⟨laid_o h.tail, laid_t h.tail.tail, laid_w h.tail.tail.tail⟩, laid_h h⟩
end Go.Proofs.YtlikhmhomkiadaaGreatDoor

namespace Go.Proofs.YtlikhmhomkiadaaGreatDoor
set_option maxRecDepth 100000
open Go Go.RowKit Go.ChangeShapes Go.WideShapes Go.Deep

/-- An act: is a frame written; its tag; its body; else an act of a disk. -/
structure Act6 where
  sl : Bool := false
  ta : Int := 0
  tb : Int := 0
  tc : Int := 0
  td : Int := 0
  te : Int := 0
  bA : Option Addr := none
  bn : Nat := 0
  bc : Nat := 0
  bl : List Nat := []
  act : Act5 := {}
instance : Inhabited Act6 := ⟨{}⟩
def Act6.cells (x : Act6) : List Value := [.bool x.sl, .int .i64 x.ta, .int .i64 x.tb, .int .i64 x.tc, .int .i64 x.td, .int .i64 x.te, .slice x.bA x.bn x.bc, .int .u8 (x.act.kind : Int), .int .i64 x.act.sec, .int .i64 x.act.num, .slice x.act.bA x.act.bn x.act.bc, .slice x.act.kA x.act.kn x.act.kc]
structure Act6.Ok (x : Act6) (w : World) (B : Nat) : Prop where
  body : Bs w B x.bA x.bn x.bc x.bl
  act : x.act.Ok w B
theorem Act6.Ok.below {a : Act6} {w w' : World} {B : Nat} (h : a.Ok w B) (hb : Below B w w') : a.Ok w' B := ⟨h.body.below hb, h.act.below hb⟩
theorem Act6.Ok.more {a : Act6} {w : World} {B B' : Nat} (h : a.Ok w B) (hB : B ≤ B') : a.Ok w B' := ⟨h.body.more hB, h.act.more hB⟩

structure Acts6 (w : World) (B : Nat) (A : Option Addr) (n c : Nat) (l : List Act6) : Prop where
  len : l.length = n
  cap : n ≤ c
  most : c ≤ 9223372036854775807
  each : ∀ a ∈ l, a.Ok w B
  rd : 0 < n → ∃ g o, A = some ⟨g, o, none⟩ ∧ g < B ∧ ∀ j a, l[j]? = some a → ∀ k v, a.cells[k]? = some v → w.cell? ⟨g, o + (j * 12 + k), none⟩ = some v
  nil_ : A = none → c = 0
theorem Acts6.below {w w' : World} {B : Nat} {A : Option Addr} {n c : Nat} {l : List Act6} (h : Acts6 w B A n c l) (hb : Below B w w') : Acts6 w' B A n c l :=
  ⟨h.len, h.cap, h.most, fun a ha => (h.each a ha).below hb, fun hn => by
    obtain ⟨g, o, e, hg, hc⟩ := h.rd hn
    exact ⟨g, o, e, hg, fun j a ha k v hv => (hb.cell (p := ⟨g, o + (j * 12 + k), none⟩) hg).trans (hc j a ha k v hv)⟩, h.nil_⟩
theorem Acts6.more {w : World} {B B' : Nat} {A : Option Addr} {n c : Nat} {l : List Act6} (h : Acts6 w B A n c l) (hB : B ≤ B') : Acts6 w B' A n c l :=
  ⟨h.len, h.cap, h.most, fun a ha => (h.each a ha).more hB, fun hn => by
    obtain ⟨g, o, e, hg, hc⟩ := h.rd hn
    exact ⟨g, o, e, by omega, hc⟩, h.nil_⟩
/-- The cells of the act at a place of the list. -/
def Cells12 (w : World) (g o : Nat) (x : Act6) : Prop :=
  w.cell? ⟨g, o, none⟩ = some (.bool x.sl) ∧ w.cell? ⟨g, o + 1, none⟩ = some (.int .i64 x.ta) ∧ w.cell? ⟨g, o + 2, none⟩ = some (.int .i64 x.tb) ∧ w.cell? ⟨g, o + 3, none⟩ = some (.int .i64 x.tc) ∧ w.cell? ⟨g, o + 4, none⟩ = some (.int .i64 x.td) ∧ w.cell? ⟨g, o + 5, none⟩ = some (.int .i64 x.te) ∧
  w.cell? ⟨g, o + 6, none⟩ = some (.slice x.bA x.bn x.bc) ∧ w.cell? ⟨g, o + 7, none⟩ = some (.int .u8 (x.act.kind : Int)) ∧ w.cell? ⟨g, o + 8, none⟩ = some (.int .i64 x.act.sec) ∧ w.cell? ⟨g, o + 9, none⟩ = some (.int .i64 x.act.num) ∧
  w.cell? ⟨g, o + 10, none⟩ = some (.slice x.act.bA x.act.bn x.act.bc) ∧ w.cell? ⟨g, o + 11, none⟩ = some (.slice x.act.kA x.act.kn x.act.kc)
theorem Cells12.below {w w' : World} {B g o : Nat} {x : Act6} (h : Cells12 w g o x) (hb : Below B w w') (hg : g < B) : Cells12 w' g o x := by
  obtain ⟨h0, h1, h2, h3, h4, h5, h6, h7, h8, h9, h10, h11⟩ := h
  exact ⟨(hb.cell (p := ⟨g, o, none⟩) hg).trans h0, (hb.cell (p := ⟨g, o + 1, none⟩) hg).trans h1, (hb.cell (p := ⟨g, o + 2, none⟩) hg).trans h2, (hb.cell (p := ⟨g, o + 3, none⟩) hg).trans h3, (hb.cell (p := ⟨g, o + 4, none⟩) hg).trans h4, (hb.cell (p := ⟨g, o + 5, none⟩) hg).trans h5,
    (hb.cell (p := ⟨g, o + 6, none⟩) hg).trans h6, (hb.cell (p := ⟨g, o + 7, none⟩) hg).trans h7, (hb.cell (p := ⟨g, o + 8, none⟩) hg).trans h8, (hb.cell (p := ⟨g, o + 9, none⟩) hg).trans h9, (hb.cell (p := ⟨g, o + 10, none⟩) hg).trans h10, (hb.cell (p := ⟨g, o + 11, none⟩) hg).trans h11⟩
theorem Acts6.at_ {w : World} {B : Nat} {A : Option Addr} {n c : Nat} {l : List Act6} (h : Acts6 w B A n c l) {j : Nat} (hj : j < n) : ∃ g o a, A = some ⟨g, o, none⟩ ∧ g < B ∧ l[j]? = some a ∧ a.Ok w B ∧ Cells12 w g (o + j * 12) a := by
  obtain ⟨g, o, e, hg, hc⟩ := h.rd (by omega)
  have hj' : j < l.length := by rw [h.len]; exact hj
  have ha : l[j]? = some l[j] := List.getElem?_eq_getElem hj'
  have cell := fun (k : Nat) (v : Value) (hv : (l[j]).cells[k]? = some v) => hc j _ ha k v hv
  exact ⟨g, o, l[j], e, hg, ha, h.each _ (List.getElem_mem hj'), cell 0 _ rfl, cell 1 _ rfl, cell 2 _ rfl, cell 3 _ rfl, cell 4 _ rfl, cell 5 _ rfl, cell 6 _ rfl, cell 7 _ rfl, cell 8 _ rfl, cell 9 _ rfl, cell 10 _ rfl, cell 11 _ rfl⟩

section
variable {H : Type} {enc : TypeId × Value → H} {P : Program} {w : World} {base : Nat} {spare : Nat → Bool} {held : Bool}

structure Act6Ty (P : Program) (e tq tt ta t8 ti tb tk e8 eb : TypeId) : Prop where
  fs : ∃ f0 f1 f2 f3 : Field, P.underlying e = some (.struct #[f0, f1, f2, f3]) ∧ (f0.type = tq ∧ f0.offset = 0) ∧ (f1.type = tt ∧ f1.offset = 1) ∧ (f2.type = tb ∧ f2.offset = 6) ∧ (f3.type = ta ∧ f3.offset = 7)
  ts : ∃ f0 f1 f2 f3 f4 : Field, P.underlying tt = some (.struct #[f0, f1, f2, f3, f4]) ∧ (f0.type = ti ∧ f0.offset = 0) ∧ (f1.type = ti ∧ f1.offset = 1) ∧ (f2.type = ti ∧ f2.offset = 2) ∧ (f3.type = ti ∧ f3.offset = 3) ∧ (f4.type = ti ∧ f4.offset = 4)
  cells : P.cellsOf e = 12
  tcells : P.cellsOf tt = 5
  qcells : P.cellsOf tq = 1
  bool : P.underlying tq = some .bool
  act : ActTy P ta t8 ti tb tk e8 eb

theorem trod_tag {tt ti : TypeId} (hs : ∃ f0 f1 f2 f3 f4 : Field, P.underlying tt = some (.struct #[f0, f1, f2, f3, f4]) ∧ (f0.type = ti ∧ f0.offset = 0) ∧ (f1.type = ti ∧ f1.offset = 1) ∧ (f2.type = ti ∧ f2.offset = 2) ∧ (f3.type = ti ∧ f3.offset = 3) ∧ (f4.type = ti ∧ f4.offset = 4))
    (hcl5 : P.cellsOf tt = 5) (hc1 : P.cellsOf ti = 1) (hi : P.underlying ti = some (.int .i64)) {fuel : Nat} {cs : List Value} {x : DataW H × List MemPlace} (h : DataW.trod enc P w base spare held fuel tt cs = some x) : ∃ a b c d e : Int, cs = [.int .i64 a, .int .i64 b, .int .i64 c, .int .i64 d, .int .i64 e] := by
  obtain ⟨f0, f1, f2, f3, f4, hs, ⟨y0, o0⟩, ⟨y1, o1⟩, ⟨y2, o2⟩, ⟨y3, o3⟩, y4, o4⟩ := hs
  obtain ⟨xs, n, _, _, hcl, hxl, hg⟩ := DataW.trod_struct hs h
  rw [hcl5] at hcl
  match cs, hcl, xs, hxl with
  | [c0, c1, c2, c3, c4], _, [x0, x1, x2, x3, x4], _ =>
    have g0 := hg 0 f0 rfl
    have g1 := hg 1 f1 rfl
    have g2 := hg 2 f2 rfl
    have g3 := hg 3 f3 rfl
    have g4 := hg 4 f4 rfl
    rw [y0, o0, hc1] at g0
    rw [y1, o1, hc1] at g1
    rw [y2, o2, hc1] at g2
    rw [y3, o3, hc1] at g3
    rw [y4, o4, hc1] at g4
    obtain ⟨a, e0, _, _⟩ := DataW.trod_int hi (show DataW.trod enc P w base spare held n ti [c0] = some x0 from g0)
    obtain ⟨b, e1, _, _⟩ := DataW.trod_int hi (show DataW.trod enc P w base spare held n ti [c1] = some x1 from g1)
    obtain ⟨c, e2, _, _⟩ := DataW.trod_int hi (show DataW.trod enc P w base spare held n ti [c2] = some x2 from g2)
    obtain ⟨d, e3, _, _⟩ := DataW.trod_int hi (show DataW.trod enc P w base spare held n ti [c3] = some x3 from g3)
    obtain ⟨e, e4, _, _⟩ := DataW.trod_int hi (show DataW.trod enc P w base spare held n ti [c4] = some x4 from g4)
    injection e0 with e0 _
    injection e1 with e1 _
    injection e2 with e2 _
    injection e3 with e3 _
    injection e4 with e4 _
    exact ⟨a, b, c, d, e, by rw [e0, e1, e2, e3, e4]⟩

theorem trod_act6 {e tq tt ta t8 ti tb tk e8 eb : TypeId} (T : Act6Ty P e tq tt ta t8 ti tb tk e8 eb) (hsp : ∀ g, spare g = true) {fuel : Nat} {cs : List Value} {x : DataW H × List MemPlace} (h : DataW.trod enc P w base spare held fuel e cs = some x) : ∃ a : Act6, cs = a.cells ∧ a.Ok w w.heap.size := by
  obtain ⟨f0, f1, f2, f3, hs, ⟨y0, o0⟩, ⟨y1, o1⟩, ⟨y2, o2⟩, y3, o3⟩ := T.fs
  obtain ⟨xs, n, _, _, hcl, hxl, hg⟩ := DataW.trod_struct hs h
  rw [T.cells] at hcl
  match cs, hcl, xs, hxl with
  | [c0, c1, c2, c3, c4, c5, c6, c7, c8, c9, c10, c11], _, [x0, x1, x2, x3], _ =>
    have g0 := hg 0 f0 rfl
    have g1 := hg 1 f1 rfl
    have g2 := hg 2 f2 rfl
    have g3 := hg 3 f3 rfl
    rw [y0, o0, T.qcells] at g0
    rw [y1, o1, T.tcells] at g1
    rw [y2, o2, T.act.one.2.2.1] at g2
    rw [y3, o3, T.act.cells] at g3
    obtain ⟨q, e0, _⟩ := DataW.trod_bool T.bool (show DataW.trod enc P w base spare held n tq [c0] = some x0 from g0)
    obtain ⟨a, b, c, d, e, e1⟩ := trod_tag T.ts T.tcells T.act.one.2.1 T.act.i64 (show DataW.trod enc P w base spare held n tt [c1, c2, c3, c4, c5] = some x1 from g1)
    obtain ⟨bA, bn, bc, bl, e2, hb⟩ := trod_bytes T.act.bytes.1 T.act.bytes.2.1 T.act.bytes.2.2 hsp (show DataW.trod enc P w base spare held n tb [c6] = some x2 from g2)
    obtain ⟨y, e3, hy⟩ := trod_act T.act hsp (show DataW.trod enc P w base spare held n ta [c7, c8, c9, c10, c11] = some x3 from g3)
    injection e0 with e0 _
    injection e1 with e1 e1'
    injection e1' with e12 e1'
    injection e1' with e13 e1'
    injection e1' with e14 e1'
    injection e1' with e15 _
    injection e2 with e2 _
    unfold Act5.cells at e3
    injection e3 with e31 e3
    injection e3 with e32 e3
    injection e3 with e33 e3
    injection e3 with e34 e3
    injection e3 with e35 _
    refine ⟨{ sl := q, ta := a, tb := b, tc := c, td := d, te := e, bA := bA, bn := bn, bc := bc, bl := bl, act := y }, ?_, ⟨hb, hy⟩⟩
    rw [e0, e1, e12, e13, e14, e15, e2, e31, e32, e33, e34, e35]
    rfl

theorem trod_acts6 {t e tq tt ta t8 ti tb tk e8 eb : TypeId} (ht : P.underlying t = some (.slice e)) (T : Act6Ty P e tq tt ta t8 ti tb tk e8 eb) (hsp : ∀ g, spare g = true) {fuel : Nat} {cs : List Value} {x : DataW H × List MemPlace} (h : DataW.trod enc P w base spare held fuel t cs = some x) :
    ∃ (A : Option Addr) (n c : Nat) (l : List Act6), cs = [.slice A n c] ∧ Acts6 w w.heap.size A n c l := by
  rcases open_slice ht h with ⟨rfl, _⟩ | ⟨a, len, cap, m, n, D, Pl, rfl, _, hl, hm, hmm, _, hi⟩
  · exact ⟨none, 0, 0, [], rfl, rfl, Nat.le_refl _, by omega, fun a ha => (by cases ha), fun h => absurd h (by omega), fun _ => rfl⟩
  · have hle : len ≤ m := by rw [hmm]; split <;> omega
    have each : ∀ i, i < len → ∃ b : Act6, (∀ k v, b.cells[k]? = some v → w.cell? ((a.add (i * 12)).add k) = some v) ∧ b.Ok w w.heap.size := fun i hil => by
      obtain ⟨cs', h1, h2⟩ := hi i (by omega)
      rw [T.cells] at h1
      obtain ⟨_, _, hcell⟩ := World.cells?_some h1
      obtain ⟨b, rfl, hb⟩ := trod_act6 T hsp h2
      refine ⟨b, fun k v hv => ?_, hb⟩
      have hk5 : k < 12 := (List.getElem?_eq_some_iff.1 hv).1
      rw [hcell k hk5, hv]
    obtain ⟨f, hf⟩ := choose_lt each
    refine ⟨some a, len, cap, (List.range len).map f, rfl, by simp, hl, by unfold maxLen at hm; exact hm, fun b hb => ?_, fun hn => ?_, fun h => by cases h⟩
    · obtain ⟨i, hil, rfl⟩ := List.mem_map.1 hb
      exact (hf i (List.mem_range.1 hil)).2
    · obtain ⟨g, o, spot⟩ := a
      have hc := (hf 0 hn).1 0 _ rfl
      have hspot : spot = none := by simpa [Addr.add] using World.cell?_spot hc
      subst hspot
      refine ⟨g, o, rfl, ?_, fun j b hb k v hv => ?_⟩
      · have := World.block_lt_of_cell? w _ hc
        simpa [Addr.add] using this
      · rw [List.getElem?_map] at hb
        obtain ⟨i, hi2, rfl⟩ := Option.map_eq_some_iff.1 hb
        obtain ⟨hjl, hji⟩ := List.getElem?_eq_some_iff.1 hi2
        simp at hjl hji
        subst hji
        have := (hf j hjl).1 k v hv
        rw [Addr.add_lit, Addr.add_lit, Nat.add_assoc] at this
        exact this

theorem open_acts6 {t e tq tt ta t8 ti tb tk e8 eb : TypeId} (ht : P.underlying t = some (.slice e)) (T : Act6Ty P e tq tt ta t8 ti tb tk e8 eb) {r : Reach} {b0 : Nat} {v : Value} {d : DataW H} {p : List MemPlace}
    (hv : Value.okWide P w r b0 t v) (h : DataW.Trod enc P w base (fun _ => true) held t v d p) : ∃ (A : Option Addr) (n c : Nat) (l : List Act6), v = .slice A n c ∧ Acts6 w w.heap.size A n c l := by
  obtain ⟨A, n, c, rfl⟩ := okWide_slice ht hv
  obtain ⟨fuel, hf⟩ := h
  obtain ⟨A', n', c', l, hcs, hl⟩ := trod_acts6 ht T (fun _ => rfl) hf
  simp [Value.cells] at hcs
  obtain ⟨rfl, rfl, rfl⟩ := hcs
  exact ⟨_, _, _, l, rfl, hl⟩
end
end Go.Proofs.YtlikhmhomkiadaaGreatDoor

namespace Go.Proofs.YtlikhmhomkiadaaGreatDoor
set_option maxRecDepth 100000
set_option maxRecDepth 100000
open Go Go.RowKit Go.ChangeShapes Go.WideShapes

theorem gact_ty : ActTy Tryz.prog 37 5 3 34 35 5 4 :=
  ⟨⟨_, _, _, _, _, Tryz.underlying37, ⟨rfl, rfl⟩, ⟨rfl, rfl⟩, ⟨rfl, rfl⟩, ⟨rfl, rfl⟩, rfl, rfl⟩, by kernel_rfl, ⟨by kernel_rfl, by kernel_rfl, by kernel_rfl, by kernel_rfl, by kernel_rfl⟩, Tryz.underlying5, Tryz.underlying3, ⟨Tryz.underlying34, Tryz.underlying5, by kernel_rfl⟩, ⟨Tryz.underlying35, Tryz.underlying4⟩⟩
theorem gact6_ty : Act6Ty Tryz.prog 39 4 33 37 5 3 34 35 5 4 :=
  ⟨⟨_, _, _, _, Tryz.underlying39, ⟨rfl, rfl⟩, ⟨rfl, rfl⟩, ⟨rfl, rfl⟩, rfl, rfl⟩, ⟨_, _, _, _, _, Tryz.underlying33, ⟨rfl, rfl⟩, ⟨rfl, rfl⟩, ⟨rfl, rfl⟩, ⟨rfl, rfl⟩, rfl, rfl⟩, by kernel_rfl, by kernel_rfl, by kernel_rfl, Tryz.underlying4, gact_ty⟩
/-- Acts that came in, opened (the name is the frame's: open_t and the type's number). -/
theorem open_t22 {H : Type} {enc : TypeId × Value → H} {w : World} {base : Nat} {held : Bool} {r : Reach} {b0 : Nat} {v : Value} {d : DataW H} {p : List MemPlace}
    (hv : Value.okWide Tryz.prog w r b0 22 v) (h : DataW.Trod enc Tryz.prog w base (fun _ => true) held 22 v d p) : ∃ (A : Option Addr) (n c : Nat) (l : List Act6), v = .slice A n c ∧ Acts6 w w.heap.size A n c l :=
  open_acts6 Tryz.underlying22 gact6_ty hv h
end Go.Proofs.YtlikhmhomkiadaaGreatDoor

namespace Go.Proofs.YtlikhmhomkiadaaGreatDoor
open Go Go.RowKit Go.ChangeShapes Go.WideShapes Go.Deep

/-- A list whose elements have N cells each. -/
structure Ls {α : Type} (cells : α → List Value) (N : Nat) (w : World) (B : Nat) (A : Option Addr) (n c : Nat) (l : List α) : Prop where
  len : l.length = n
  cap : n ≤ c
  most : c ≤ 9223372036854775807
  rd : 0 < n → ∃ g o, A = some ⟨g, o, none⟩ ∧ g < B ∧ ∀ j a, l[j]? = some a → ∀ k v, (cells a)[k]? = some v → w.cell? ⟨g, o + (j * N + k), none⟩ = some v
  nil_ : A = none → c = 0
theorem Ls.below {α : Type} {cells : α → List Value} {N : Nat} {w w' : World} {B : Nat} {A : Option Addr} {n c : Nat} {l : List α} (h : Ls cells N w B A n c l) (hb : Below B w w') : Ls cells N w' B A n c l :=
  ⟨h.len, h.cap, h.most, fun hn => by
    obtain ⟨g, o, e, hg, hc⟩ := h.rd hn
    exact ⟨g, o, e, hg, fun j a ha k v hv => (hb.cell (p := ⟨g, o + (j * N + k), none⟩) hg).trans (hc j a ha k v hv)⟩, h.nil_⟩
theorem Ls.at_ {α : Type} {cells : α → List Value} {N : Nat} {w : World} {B : Nat} {A : Option Addr} {n c : Nat} {l : List α} (h : Ls cells N w B A n c l) {j : Nat} (hj : j < n) :
    ∃ g o a, A = some ⟨g, o, none⟩ ∧ g < B ∧ l[j]? = some a ∧ ∀ k v, (cells a)[k]? = some v → w.cell? ⟨g, o + (j * N + k), none⟩ = some v := by
  obtain ⟨g, o, e, hg, hc⟩ := h.rd (by omega)
  have hj' : j < l.length := by rw [h.len]; exact hj
  have ha : l[j]? = some l[j] := List.getElem?_eq_getElem hj'
  exact ⟨g, o, l[j], e, hg, ha, fun k v hv => hc j _ ha k v hv⟩

section
variable {H : Type} {enc : TypeId × Value → H} {P : Program} {w : World} {base : Nat} {spare : Nat → Bool} {held : Bool}
theorem trod_list {α : Type} [Inhabited α] {cells : α → List Value} {N : Nat} {Ok : α → Prop} (hN : ∀ a, (cells a).length = N) (h0 : 0 < N) {t e : TypeId} (ht : P.underlying t = some (.slice e)) (hce : P.cellsOf e = N)
    (one : ∀ {fuel : Nat} {cs : List Value} {x : DataW H × List MemPlace}, DataW.trod enc P w base spare held fuel e cs = some x → ∃ a, cs = cells a ∧ Ok a) {fuel : Nat} {cs : List Value} {x : DataW H × List MemPlace} (h : DataW.trod enc P w base spare held fuel t cs = some x) :
    ∃ (A : Option Addr) (n c : Nat) (l : List α), cs = [.slice A n c] ∧ Ls cells N w w.heap.size A n c l ∧ ∀ a ∈ l, Ok a := by
  rcases open_slice ht h with ⟨rfl, _⟩ | ⟨a, len, cap, m, n, D, Pl, rfl, _, hl, hm, hmm, _, hi⟩
  · exact ⟨none, 0, 0, [], rfl, ⟨rfl, Nat.le_refl _, by omega, fun h => absurd h (by omega), fun _ => rfl⟩, fun a ha => (by cases ha)⟩
  · have hle : len ≤ m := by rw [hmm]; split <;> omega
    have each : ∀ i, i < len → ∃ b : α, (∀ k v, (cells b)[k]? = some v → w.cell? ((a.add (i * N)).add k) = some v) ∧ Ok b := fun i hil => by
      obtain ⟨cs', h1, h2⟩ := hi i (by omega)
      rw [hce] at h1
      obtain ⟨_, _, hcell⟩ := World.cells?_some h1
      obtain ⟨b, rfl, hb⟩ := one h2
      refine ⟨b, fun k v hv => ?_, hb⟩
      have hk5 : k < N := by rw [← hN b]; exact (List.getElem?_eq_some_iff.1 hv).1
      rw [hcell k hk5, hv]
    obtain ⟨f, hf⟩ := choose_lt each
    refine ⟨some a, len, cap, (List.range len).map f, rfl, ⟨by simp, hl, by unfold maxLen at hm; exact hm, fun hn => ?_, fun h => by cases h⟩, fun b hb => ?_⟩
    · obtain ⟨g, o, spot⟩ := a
      have hc := (hf 0 hn).1 0 _ (List.getElem?_eq_getElem (by rw [hN]; exact h0))
      have hspot : spot = none := by simpa [Addr.add] using World.cell?_spot hc
      subst hspot
      refine ⟨g, o, rfl, ?_, fun j b hb k v hv => ?_⟩
      · have := World.block_lt_of_cell? w _ hc
        simpa [Addr.add] using this
      · rw [List.getElem?_map] at hb
        obtain ⟨i, hi2, rfl⟩ := Option.map_eq_some_iff.1 hb
        obtain ⟨hjl, hji⟩ := List.getElem?_eq_some_iff.1 hi2
        simp at hjl hji
        subst hji
        have := (hf j hjl).1 k v hv
        rw [Addr.add_lit, Addr.add_lit, Nat.add_assoc] at this
        exact this
    · obtain ⟨i, hil, rfl⟩ := List.mem_map.1 hb
      exact (hf i (List.mem_range.1 hil)).2
theorem open_list {α : Type} [Inhabited α] {cells : α → List Value} {N : Nat} {Ok : α → Prop} (hN : ∀ a, (cells a).length = N) (h0 : 0 < N) {t e : TypeId} (ht : P.underlying t = some (.slice e)) (hce : P.cellsOf e = N)
    (one : ∀ {fuel : Nat} {cs : List Value} {x : DataW H × List MemPlace}, DataW.trod enc P w base spare held fuel e cs = some x → ∃ a, cs = cells a ∧ Ok a) {r : Reach} {b0 : Nat} {v : Value} {d : DataW H} {p : List MemPlace}
    (hv : Value.okWide P w r b0 t v) (h : DataW.Trod enc P w base spare held t v d p) : ∃ (A : Option Addr) (n c : Nat) (l : List α), v = .slice A n c ∧ Ls cells N w w.heap.size A n c l ∧ ∀ a ∈ l, Ok a := by
  obtain ⟨A, n, c, rfl⟩ := okWide_slice ht hv
  obtain ⟨fuel, hf⟩ := h
  obtain ⟨A', n', c', l, hcs, hl⟩ := trod_list hN h0 ht hce one hf
  simp [Value.cells] at hcs
  obtain ⟨rfl, rfl, rfl⟩ := hcs
  exact ⟨_, _, _, l, rfl, hl⟩
/-- A ballot. -/
structure BalTy (P : Program) (e ti : TypeId) : Prop where
  fs : ∃ f0 f1 : Field, P.underlying e = some (.struct #[f0, f1]) ∧ (f0.type = ti ∧ f0.offset = 0) ∧ (f1.type = ti ∧ f1.offset = 1)
  cells : P.cellsOf e = 2
  one : P.cellsOf ti = 1
  i64 : P.underlying ti = some (.int .i64)
theorem trod_bal {e ti : TypeId} (T : BalTy P e ti) {fuel : Nat} {cs : List Value} {x : DataW H × List MemPlace} (h : DataW.trod enc P w base spare held fuel e cs = some x) : ∃ a b : Int, cs = [.int .i64 a, .int .i64 b] ∧ (Lit.int .i64 a).wf = true ∧ (Lit.int .i64 b).wf = true := by
  obtain ⟨f0, f1, hs, ⟨y0, o0⟩, y1, o1⟩ := T.fs
  obtain ⟨xs, n, _, _, hcl, hxl, hg⟩ := DataW.trod_struct hs h
  rw [T.cells] at hcl
  match cs, hcl, xs, hxl with
  | [c0, c1], _, [x0, x1], _ =>
    have g0 := hg 0 f0 rfl
    have g1 := hg 1 f1 rfl
    rw [y0, o0, T.one] at g0
    rw [y1, o1, T.one] at g1
    obtain ⟨a, e0, _, w0⟩ := DataW.trod_int T.i64 (show DataW.trod enc P w base spare held n ti [c0] = some x0 from g0)
    obtain ⟨b, e1, _, w1⟩ := DataW.trod_int T.i64 (show DataW.trod enc P w base spare held n ti [c1] = some x1 from g1)
    injection e0 with e0 _
    injection e1 with e1 _
    exact ⟨a, b, by rw [e0, e1], w0, w1⟩
/-- A ballot of a list. -/
structure Bal where
  x : Int := 0
  y : Int := 0
instance : Inhabited Bal := ⟨{}⟩
def Bal.cells (b : Bal) : List Value := [.int .i64 b.x, .int .i64 b.y]
/-- A step: is it a promise; the ballot; the power; what is kept. -/
structure StepU where
  p : Bool := false
  x : Int := 0
  y : Int := 0
  w : Int := 0
  kA : Option Addr := none
  kn : Nat := 0
  kc : Nat := 0
  kl : List Bool := []
instance : Inhabited StepU := ⟨{}⟩
def StepU.cells (s : StepU) : List Value := [.bool s.p, .int .i64 s.x, .int .i64 s.y, .int .i8 s.w, .slice s.kA s.kn s.kc]
structure StepU.Ok (s : StepU) (w : World) (B : Nat) : Prop where
  power : (Lit.int .i8 s.w).wf = true
  keep : Vs w B s.kA s.kn s.kc (s.kl.map .bool)
end
end Go.Proofs.YtlikhmhomkiadaaGreatDoor

namespace Go.Proofs.YtlikhmhomkiadaaGreatDoor
open Go Go.RowKit Go.ChangeShapes Go.WideShapes Go.Deep

/-- An act of the cells. -/
structure Act7 where
  k : Nat := 0
  num : Int := 0
  bA : Option Addr := none
  bn : Nat := 0
  bc : Nat := 0
  bl : List Nat := []
  o : Act6 := {}
instance : Inhabited Act7 := ⟨{}⟩
def Act7.cells (x : Act7) : List Value := [.int .u8 (x.k : Int), .int .i64 x.num, .slice x.bA x.bn x.bc, .bool x.o.sl, .int .i64 x.o.ta, .int .i64 x.o.tb, .int .i64 x.o.tc, .int .i64 x.o.td, .int .i64 x.o.te, .slice x.o.bA x.o.bn x.o.bc, .int .u8 (x.o.act.kind : Int), .int .i64 x.o.act.sec, .int .i64 x.o.act.num, .slice x.o.act.bA x.o.act.bn x.o.act.bc, .slice x.o.act.kA x.o.act.kn x.o.act.kc]
structure Act7.Ok (x : Act7) (w : World) (B : Nat) : Prop where
  lt : x.k < 256
  body : Bs w B x.bA x.bn x.bc x.bl
  o : x.o.Ok w B
/-- An act of the metadata's. -/
structure Act8 where
  k : Nat := 0
  x : Int := 0
  y : Int := 0
  o : Act6 := {}
instance : Inhabited Act8 := ⟨{}⟩
def Act8.cells (x : Act8) : List Value := [.int .u8 (x.k : Int), .int .i64 x.x, .int .i64 x.y, .bool x.o.sl, .int .i64 x.o.ta, .int .i64 x.o.tb, .int .i64 x.o.tc, .int .i64 x.o.td, .int .i64 x.o.te, .slice x.o.bA x.o.bn x.o.bc, .int .u8 (x.o.act.kind : Int), .int .i64 x.o.act.sec, .int .i64 x.o.act.num, .slice x.o.act.bA x.o.act.bn x.o.act.bc, .slice x.o.act.kA x.o.act.kn x.o.act.kc]
structure Act8.Ok (x : Act8) (w : World) (B : Nat) : Prop where
  lt : x.k < 256
  o : x.o.Ok w B
section
variable {H : Type} {enc : TypeId × Value → H} {P : Program} {w : World} {base : Nat} {spare : Nat → Bool} {held : Bool}
structure Act8Ty (P : Program) (e eB e6 tq tt ta t8 ti tb tk e8 eb : TypeId) : Prop where
  fs : ∃ f0 f1 f2 : Field, P.underlying e = some (.struct #[f0, f1, f2]) ∧ (f0.type = t8 ∧ f0.offset = 0) ∧ (f1.type = eB ∧ f1.offset = 1) ∧ (f2.type = e6 ∧ f2.offset = 3)
  cells : P.cellsOf e = 15
  bal : BalTy P eB ti
  act : Act6Ty P e6 tq tt ta t8 ti tb tk e8 eb
theorem trod_act8 {e eB e6 tq tt ta t8 ti tb tk e8 eb : TypeId} (T : Act8Ty P e eB e6 tq tt ta t8 ti tb tk e8 eb) (hsp : ∀ g, spare g = true) {fuel : Nat} {cs : List Value} {x : DataW H × List MemPlace} (h : DataW.trod enc P w base spare held fuel e cs = some x) : ∃ a : Act8, cs = a.cells ∧ a.Ok w w.heap.size := by
  obtain ⟨f0, f1, f2, hs, ⟨y0, o0⟩, ⟨y1, o1⟩, y2, o2⟩ := T.fs
  obtain ⟨xs, n, _, _, hcl, hxl, hg⟩ := DataW.trod_struct hs h
  rw [T.cells] at hcl
  match cs, hcl, xs, hxl with
  | [c0, c1, c2, c3, c4, c5, c6, c7, c8, c9, c10, c11, c12, c13, c14], _, [x0, x1, x2], _ =>
    have g0 := hg 0 f0 rfl
    have g1 := hg 1 f1 rfl
    have g2 := hg 2 f2 rfl
    rw [y0, o0, T.act.act.one.1] at g0
    rw [y1, o1, T.bal.cells] at g1
    rw [y2, o2, T.act.cells] at g2
    obtain ⟨q, e0, _, hq⟩ := DataW.trod_int T.act.act.u8 (show DataW.trod enc P w base spare held n t8 [c0] = some x0 from g0)
    obtain ⟨a, b, e1, _⟩ := trod_bal T.bal (show DataW.trod enc P w base spare held n eB [c1, c2] = some x1 from g1)
    obtain ⟨y, e3, hy⟩ := trod_act6 T.act hsp (show DataW.trod enc P w base spare held n e6 [c3, c4, c5, c6, c7, c8, c9, c10, c11, c12, c13, c14] = some x2 from g2)
    have hk8 := bounds_u8 hq
    injection e0 with e0 _
    injection e1 with e1 e1'
    injection e1' with e1' _
    refine ⟨{ k := q.toNat, x := a, y := b, o := y }, ?_, ⟨by show q.toNat < 256; omega, hy⟩⟩
    rw [e0, e1, e1', e3]
    show _ = [Value.int .u8 ((q.toNat : Nat) : Int), _, _] ++ y.cells
    rw [Int.toNat_of_nonneg hk8.1]
    rfl
end
end Go.Proofs.YtlikhmhomkiadaaGreatDoor

namespace Go.Proofs.YtlikhmhomkiadaaGreatDoor
set_option maxRecDepth 100000
open Go Go.RowKit Go.ChangeShapes Go.WideShapes Go.Deep

theorem bal_ty : BalTy Tryz.prog 74 3 := ⟨⟨_, _, Tryz.underlying74, ⟨rfl, rfl⟩, rfl, rfl⟩, by kernel_rfl, by kernel_rfl, Tryz.underlying3⟩
end Go.Proofs.YtlikhmhomkiadaaGreatDoor

namespace Go.Proofs.YtlikhmhomkiadaaGreatDoor
set_option maxRecDepth 100000
open Go Go.RowKit Go.ChangeShapes Go.WideShapes

theorem act8_ty : Act8Ty Tryz.prog 80 74 39 4 33 37 5 3 34 35 5 4 :=
  ⟨⟨_, _, _, Tryz.underlying80, ⟨rfl, rfl⟩, ⟨rfl, rfl⟩, rfl, rfl⟩, by kernel_rfl, bal_ty, gact6_ty⟩
/-- Acts that came in, opened (the name is the frame's: open_t and the type's number). -/
theorem open_t77 {H : Type} {enc : TypeId × Value → H} {w : World} {base : Nat} {held : Bool} {r : Reach} {b0 : Nat} {v : Value} {d : DataW H} {p : List MemPlace}
    (hv : Value.okWide Tryz.prog w r b0 77 v) (h : DataW.Trod enc Tryz.prog w base (fun _ => true) held 77 v d p) : ∃ (A : Option Addr) (n c : Nat) (l : List Act8), v = .slice A n c ∧ Ls Act8.cells 15 w w.heap.size A n c l ∧ ∀ a ∈ l, a.Ok w w.heap.size :=
  open_list (cells := Act8.cells) (N := 15) (Ok := fun a => a.Ok w w.heap.size) (fun _ => rfl) (by omega) Tryz.underlying77 (by kernel_rfl) (fun h => trod_act8 act8_ty (fun _ => rfl) h) hv h
end Go.Proofs.YtlikhmhomkiadaaGreatDoor
