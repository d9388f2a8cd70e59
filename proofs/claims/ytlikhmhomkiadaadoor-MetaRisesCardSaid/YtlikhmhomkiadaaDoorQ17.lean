/-
  What the row's listing of the four tables gives the walks, and that the program's own start meets it.
  Lists of structs that came in, opened, whatever their elements: what their cells hold. Metadata, ballots, and steps (a bool, a ballot, a small number, a list of bools) that came in.
  Metadata, ballots and steps that came in, opened, by the program's own types.
  Lists of ballots and of steps that came in, opened, by the program's own types.
  The door of the statements on metadata that reach a disk: the four tables, and metadata, ballots and steps that came in.
  What '!=' answers of two tags.
-/
import Derived.Test.YtlikhmhomkiadaaDoorQ05
import Derived.Test.YtlikhmhomkiadaaDoorQ06
import Derived.Test.YtlikhmhomkiadaaDoorQ12
import Derived.Test.YtlikhmhomkiadaaDoorQ16
import Derived.Test.YtlikhmhomkiadaaDoorRows
import Derived.ProofKit
import Derived.LaidMore
import Derived.Lib.LaidTab
import Derived.Stop.Joined
import Derived.Test.YtlikhmhomkiadaaDoorProg
namespace Go.Proofs.YtlikhmhomkiadaaDoor
set_option maxRecDepth 100000
open Go Go.ChangeShapes Go.WideShapes Go.ChangeAt Go.WideMaps Go.WideElems Go.RowKit Go.Deep

def laidList : List (String × DataW Unit) := [("sexton/crc.halves", Rows.laid_sexton_crc_halves), ("sexton/octet.bounds", Rows.laid_sexton_octet_bounds), ("sexton/tag.regions", Rows.laid_sexton_tag_regions), ("sexton/tag.widths", Rows.laid_sexton_tag_widths)]

theorem door_met (os : Os) (args : Array Value) : laidMetH Tryd.prog laidList ((World.doorLaid Tryd.prog 400 os).forCall (fun _ _ => 0) ⟨#[], args, []⟩).memory :=
  laidMetH_of_parts3 (fuel := 8) (laidMet_of_run' 8 (by kernel_rfl) (by kernel_rfl)) (by kernel_rfl) (by kernel_rfl)

theorem tag_fields (fs : Array Field) (hs : Tryd.prog.underlying 97 = some (.struct fs)) (j : Nat) (f : Field) (hf : fs[j]? = some f) : Tryd.prog.underlying f.type = some (.int .i64) := by
  rw [Tryd.underlying97] at hs
  injection hs with hs
  injection hs with hs
  subst hs
  match j, hf with
  | 0, hf => injection hf with hf; subst hf; exact Tryd.underlying3
  | 1, hf => injection hf with hf; subst hf; exact Tryd.underlying3
  | 2, hf => injection hf with hf; subst hf; exact Tryd.underlying3
  | 3, hf => injection hf with hf; subst hf; exact Tryd.underlying3
  | 4, hf => injection hf with hf; subst hf; exact Tryd.underlying3
  | (j + 5), hf => simp at hf
/-- A tag that came in, opened (the name is the frame's: open_t and the type's number). -/
theorem open_t97 {H : Type} {enc : TypeId × Value → H} {w : World} {base : Nat} {sp : Nat → Bool} {held : Bool} {r : Reach} {b0 : Nat} {v : Value} {d : DataW H} {p : List MemPlace}
    (hv : Value.okWide Tryd.prog w r b0 97 v) (h : DataW.Trod enc Tryd.prog w base sp held 97 v d p) : ∃ a b c d' e : Int, v = .agg #[.int .i64 a, .int .i64 b, .int .i64 c, .int .i64 d', .int .i64 e] :=
  open_agg5i Tryd.underlying97 (by kernel_rfl) (by kernel_rfl) (tag_fields _ Tryd.underlying97) rfl hv h

theorem laid_o {W : World} {rest : List (String × DataW Unit)} (h : laidMet Tryd.prog (("sexton/octet.bounds", Rows.laid_sexton_octet_bounds) :: rest) W) : Laid W := by
  have hg : Tryd.prog.globalNamed "sexton/octet.bounds" = some 0 := by kernel_rfl
  have ht : (Tryd.prog.globals[0]?).map (·.type) = some 107 := by kernel_rfl
  have hv : W.var? Tryd.prog "sexton/octet.bounds" = some (([0, 256, 65536, 0, 4294967296, 0, 281474976710656] : List Int).map fun z => Value.int .i64 z).toArray :=
    Lib.tabIs_of_head hg ht Tryd.underlying107 Tryd.underlying3 (by kernel_rfl) (by kernel_rfl) h
  have hc := fun i => World.var?_cell hg hv i
  exact ⟨hc 0, hc 1, hc 2, hc 3, hc 4, hc 5, hc 6⟩

theorem laid_t {W : World} {rest : List (String × DataW Unit)} (h : laidMet Tryd.prog (("sexton/tag.regions", Rows.laid_sexton_tag_regions) :: rest) W) : LaidT W := by
  have hg : Tryd.prog.globalNamed "sexton/tag.regions" = some 2 := by kernel_rfl
  have ht : (Tryd.prog.globals[2]?).map (·.type) = some 133 := by kernel_rfl
  have hc := tab2_of_head (k := .i64) (rows := [[0, 0], [2, 1], [2, 1], [24, 1], [48, 2], [16, 2]]) hg ht Tryd.underlying133 Tryd.underlying123 (by kernel_rfl) (by kernel_rfl)
    (fun j f hf => by
      match j, hf with
      | 0, hf => injection hf with hf; subst hf; exact Tryd.underlying3
      | 1, hf => injection hf with hf; subst hf; exact Tryd.underlying3
      | (j + 2), hf => simp at hf) h
  have row : ∀ (i : Nat) (a b : Int), ([[0, 0], [2, 1], [2, 1], [24, 1], [48, 2], [16, 2]] : List (List Int))[i]? = some [a, b] → W.cell? ⟨2, i * 2, none⟩ = some (.int .i64 a) ∧ W.cell? ⟨2, i * 2 + 1, none⟩ = some (.int .i64 b) := fun i a b hi => ⟨hc i [a, b] hi 0 a rfl, hc i [a, b] hi 1 b rfl⟩
  intro r hr
  have hj' : r = 0 ∨ r = 1 ∨ r = 2 ∨ r = 3 ∨ r = 4 ∨ r = 5 := by omega
  rcases hj' with rfl | rfl | rfl | rfl | rfl | rfl
  · exact row 0 0 0 rfl
  · exact row 1 2 1 rfl
  · exact row 2 2 1 rfl
  · exact row 3 24 1 rfl
  · exact row 4 48 2 rfl
  · exact row 5 16 2 rfl

theorem laid_w {W : World} {rest : List (String × DataW Unit)} (h : laidMet Tryd.prog (("sexton/tag.widths", Rows.laid_sexton_tag_widths) :: rest) W) : LaidW W := by
  have hg : Tryd.prog.globalNamed "sexton/tag.widths" = some 1 := by kernel_rfl
  have ht : (Tryd.prog.globals[1]?).map (·.type) = some 131 := by kernel_rfl
  have hv : W.var? Tryd.prog "sexton/tag.widths" = some (([1, 1, 1, 6, 6] : List Int).map fun z => Value.int .i64 z).toArray :=
    Lib.tabIs_of_head hg ht Tryd.underlying131 Tryd.underlying3 (by kernel_rfl) (by kernel_rfl) h
  have hc := fun i => World.var?_cell hg hv i
  intro k hk
  have hj' : k = 0 ∨ k = 1 ∨ k = 2 ∨ k = 3 ∨ k = 4 := by omega
  rcases hj' with rfl | rfl | rfl | rfl | rfl
  · exact hc 0
  · exact hc 1
  · exact hc 2
  · exact hc 3
  · exact hc 4

theorem laid_h {W : World} {rest : List (String × DataW Unit)} (h : laidMet Tryd.prog (("sexton/crc.halves", Rows.laid_sexton_crc_halves) :: rest) W) : LaidH W := by
  have hg : Tryd.prog.globalNamed "sexton/crc.halves" = some 3 := by kernel_rfl
  have ht : (Tryd.prog.globals[3]?).map (·.type) = some 144 := by kernel_rfl
  have hv : W.var? Tryd.prog "sexton/crc.halves" = some (([0, 274646895, 549293790, 820201905, 1098587580, 1361435347, 1640403810, 1905808397, 2197175160, 2460548119, 2722870694, 2987750089, 3280807620, 3553878443, 3811616794, 4084100981] : List Int).map fun z => Value.int .u32 z).toArray :=
    Lib.tabIs_of_head hg ht Tryd.underlying144 Tryd.underlying120 (by kernel_rfl) (by kernel_rfl) h
  have hc := fun i => World.var?_cell hg hv i
  intro i hi
  have e : ∀ j, j < 16 → ((([0, 274646895, 549293790, 820201905, 1098587580, 1361435347, 1640403810, 1905808397, 2197175160, 2460548119, 2722870694, 2987750089, 3280807620, 3553878443, 3811616794, 4084100981] : List Int).map fun z => Value.int .u32 z).toArray)[j]? = some (.int .u32 ((stps 4 j : Nat) : Int)) := by
    intro j hj
    have hj' : j = 0 ∨ j = 1 ∨ j = 2 ∨ j = 3 ∨ j = 4 ∨ j = 5 ∨ j = 6 ∨ j = 7 ∨ j = 8 ∨ j = 9 ∨ j = 10 ∨ j = 11 ∨ j = 12 ∨ j = 13 ∨ j = 14 ∨ j = 15 := by omega
    rcases hj' with rfl | rfl | rfl | rfl | rfl | rfl | rfl | rfl | rfl | rfl | rfl | rfl | rfl | rfl | rfl | rfl <;> rfl
  exact (hc i).trans (e i hi)

theorem laid_of {W : World} (h : laidMetH Tryd.prog laidList W) : LaidF W := by
  rw [MakeChecks.laidMetH_plain _ _ _ (by kernel_rfl)] at h
  exact ⟨⟨laid_o h.tail, laid_t h.tail.tail, laid_w h.tail.tail.tail⟩, laid_h h⟩
end Go.Proofs.YtlikhmhomkiadaaDoor

namespace Go.Proofs.YtlikhmhomkiadaaDoor
set_option maxRecDepth 100000
open Go Go.RowKit Go.ChangeShapes Go.WideShapes Go.Deep

/-- A list whose elements have N cells each. -/
structure Ls {α : Type} (cells : α → List Value) (N : Nat) (w : World) (B : Nat) (A : Option Addr) (n c : Nat) (l : List α) : Prop where
  len : l.length = n
  cap : n ≤ c
  most : c ≤ 9223372036854775807
  rd : 0 < n → ∃ g o, A = some ⟨g, o, none⟩ ∧ g < B ∧ ∀ j a, l[j]? = some a → ∀ k v, (cells a)[k]? = some v → w.cell? ⟨g, o + (j * N + k), none⟩ = some v
  nil_ : A = none → c = 0
theorem Ls.below {α : Type} {cells : α → List Value} {N : Nat} {w w' : World} {B : Nat} {A : Option Addr} {n c : Nat} {l : List α} (h : Ls cells N w B A n c l) (hb : Below B w w') : Ls cells N w' B A n c l :=
  ⟨h.len, h.cap, h.most, fun hn => by
    obtain ⟨g, o, e, hg, hc⟩ := h.rd hn
    exact ⟨g, o, e, hg, fun j a ha k v hv => (hb.cell (p := ⟨g, o + (j * N + k), none⟩) hg).trans (hc j a ha k v hv)⟩, h.nil_⟩
theorem Ls.at_ {α : Type} {cells : α → List Value} {N : Nat} {w : World} {B : Nat} {A : Option Addr} {n c : Nat} {l : List α} (h : Ls cells N w B A n c l) {j : Nat} (hj : j < n) :
    ∃ g o a, A = some ⟨g, o, none⟩ ∧ g < B ∧ l[j]? = some a ∧ ∀ k v, (cells a)[k]? = some v → w.cell? ⟨g, o + (j * N + k), none⟩ = some v := by
  obtain ⟨g, o, e, hg, hc⟩ := h.rd (by omega)
  have hj' : j < l.length := by rw [h.len]; exact hj
  have ha : l[j]? = some l[j] := List.getElem?_eq_getElem hj'
  exact ⟨g, o, l[j], e, hg, ha, fun k v hv => hc j _ ha k v hv⟩

section
variable {H : Type} {enc : TypeId × Value → H} {P : Program} {w : World} {base : Nat} {spare : Nat → Bool} {held : Bool}
theorem trod_list {α : Type} [Inhabited α] {cells : α → List Value} {N : Nat} {Ok : α → Prop} (hN : ∀ a, (cells a).length = N) (h0 : 0 < N) {t e : TypeId} (ht : P.underlying t = some (.slice e)) (hce : P.cellsOf e = N)
    (one : ∀ {fuel : Nat} {cs : List Value} {x : DataW H × List MemPlace}, DataW.trod enc P w base spare held fuel e cs = some x → ∃ a, cs = cells a ∧ Ok a) {fuel : Nat} {cs : List Value} {x : DataW H × List MemPlace} (h : DataW.trod enc P w base spare held fuel t cs = some x) :
    ∃ (A : Option Addr) (n c : Nat) (l : List α), cs = [.slice A n c] ∧ Ls cells N w w.heap.size A n c l ∧ ∀ a ∈ l, Ok a := by
  rcases open_slice ht h with ⟨rfl, _⟩ | ⟨a, len, cap, m, n, D, Pl, rfl, _, hl, hm, hmm, _, hi⟩
  · exact ⟨none, 0, 0, [], rfl, ⟨rfl, Nat.le_refl _, by omega, fun h => absurd h (by omega), fun _ => rfl⟩, fun a ha => (by cases ha)⟩
  · have hle : len ≤ m := by rw [hmm]; split <;> omega
    have each : ∀ i, i < len → ∃ b : α, (∀ k v, (cells b)[k]? = some v → w.cell? ((a.add (i * N)).add k) = some v) ∧ Ok b := fun i hil => by
      obtain ⟨cs', h1, h2⟩ := hi i (by omega)
      rw [hce] at h1
      obtain ⟨_, _, hcell⟩ := World.cells?_some h1
      obtain ⟨b, rfl, hb⟩ := one h2
      refine ⟨b, fun k v hv => ?_, hb⟩
      have hk5 : k < N := by rw [← hN b]; exact (List.getElem?_eq_some_iff.1 hv).1
      rw [hcell k hk5, hv]
    obtain ⟨f, hf⟩ := choose_lt each
    refine ⟨some a, len, cap, (List.range len).map f, rfl, ⟨by simp, hl, by unfold maxLen at hm; exact hm, fun hn => ?_, fun h => by cases h⟩, fun b hb => ?_⟩
    · obtain ⟨g, o, spot⟩ := a
      have hc := (hf 0 hn).1 0 _ (List.getElem?_eq_getElem (by rw [hN]; exact h0))
      have hspot : spot = none := by simpa [Addr.add] using World.cell?_spot hc
      subst hspot
      refine ⟨g, o, rfl, ?_, fun j b hb k v hv => ?_⟩
      · have := World.block_lt_of_cell? w _ hc
        simpa [Addr.add] using this
      · rw [List.getElem?_map] at hb
        obtain ⟨i, hi2, rfl⟩ := Option.map_eq_some_iff.1 hb
        obtain ⟨hjl, hji⟩ := List.getElem?_eq_some_iff.1 hi2
        simp at hjl hji
        subst hji
        have := (hf j hjl).1 k v hv
        rw [Addr.add_lit, Addr.add_lit, Nat.add_assoc] at this
        exact this
    · obtain ⟨i, hil, rfl⟩ := List.mem_map.1 hb
      exact (hf i (List.mem_range.1 hil)).2
theorem open_list {α : Type} [Inhabited α] {cells : α → List Value} {N : Nat} {Ok : α → Prop} (hN : ∀ a, (cells a).length = N) (h0 : 0 < N) {t e : TypeId} (ht : P.underlying t = some (.slice e)) (hce : P.cellsOf e = N)
    (one : ∀ {fuel : Nat} {cs : List Value} {x : DataW H × List MemPlace}, DataW.trod enc P w base spare held fuel e cs = some x → ∃ a, cs = cells a ∧ Ok a) {r : Reach} {b0 : Nat} {v : Value} {d : DataW H} {p : List MemPlace}
    (hv : Value.okWide P w r b0 t v) (h : DataW.Trod enc P w base spare held t v d p) : ∃ (A : Option Addr) (n c : Nat) (l : List α), v = .slice A n c ∧ Ls cells N w w.heap.size A n c l ∧ ∀ a ∈ l, Ok a := by
  obtain ⟨A, n, c, rfl⟩ := okWide_slice ht hv
  obtain ⟨fuel, hf⟩ := h
  obtain ⟨A', n', c', l, hcs, hl⟩ := trod_list hN h0 ht hce one hf
  simp [Value.cells] at hcs
  obtain ⟨rfl, rfl, rfl⟩ := hcs
  exact ⟨_, _, _, l, rfl, hl⟩
/-- A ballot. -/
structure BalTy (P : Program) (e ti : TypeId) : Prop where
  fs : ∃ f0 f1 : Field, P.underlying e = some (.struct #[f0, f1]) ∧ (f0.type = ti ∧ f0.offset = 0) ∧ (f1.type = ti ∧ f1.offset = 1)
  cells : P.cellsOf e = 2
  one : P.cellsOf ti = 1
  i64 : P.underlying ti = some (.int .i64)
theorem trod_bal {e ti : TypeId} (T : BalTy P e ti) {fuel : Nat} {cs : List Value} {x : DataW H × List MemPlace} (h : DataW.trod enc P w base spare held fuel e cs = some x) : ∃ a b : Int, cs = [.int .i64 a, .int .i64 b] ∧ (Lit.int .i64 a).wf = true ∧ (Lit.int .i64 b).wf = true := by
  obtain ⟨f0, f1, hs, ⟨y0, o0⟩, y1, o1⟩ := T.fs
  obtain ⟨xs, n, _, _, hcl, hxl, hg⟩ := DataW.trod_struct hs h
  rw [T.cells] at hcl
  match cs, hcl, xs, hxl with
  | [c0, c1], _, [x0, x1], _ =>
    have g0 := hg 0 f0 rfl
    have g1 := hg 1 f1 rfl
    rw [y0, o0, T.one] at g0
    rw [y1, o1, T.one] at g1
    obtain ⟨a, e0, _, w0⟩ := DataW.trod_int T.i64 (show DataW.trod enc P w base spare held n ti [c0] = some x0 from g0)
    obtain ⟨b, e1, _, w1⟩ := DataW.trod_int T.i64 (show DataW.trod enc P w base spare held n ti [c1] = some x1 from g1)
    injection e0 with e0 _
    injection e1 with e1 _
    exact ⟨a, b, by rw [e0, e1], w0, w1⟩
/-- Metadata. -/
structure MetaTy (P : Program) (e tb ti : TypeId) : Prop where
  fs : ∃ f0 f1 : Field, P.underlying e = some (.struct #[f0, f1]) ∧ (f0.type = tb ∧ f0.offset = 0) ∧ (f1.type = ti ∧ f1.offset = 2)
  cells : P.cellsOf e = 3
  bal : BalTy P tb ti
theorem trod_meta {e tb ti : TypeId} (T : MetaTy P e tb ti) {fuel : Nat} {cs : List Value} {x : DataW H × List MemPlace} (h : DataW.trod enc P w base spare held fuel e cs = some x) : ∃ a b c : Int, cs = [.int .i64 a, .int .i64 b, .int .i64 c] := by
  obtain ⟨f0, f1, hs, ⟨y0, o0⟩, y1, o1⟩ := T.fs
  obtain ⟨xs, n, _, _, hcl, hxl, hg⟩ := DataW.trod_struct hs h
  rw [T.cells] at hcl
  match cs, hcl, xs, hxl with
  | [c0, c1, c2], _, [x0, x1], _ =>
    have g0 := hg 0 f0 rfl
    have g1 := hg 1 f1 rfl
    rw [y0, o0, T.bal.cells] at g0
    rw [y1, o1, T.bal.one] at g1
    obtain ⟨a, b, e0, _⟩ := trod_bal T.bal (show DataW.trod enc P w base spare held n tb [c0, c1] = some x0 from g0)
    obtain ⟨c, e1, _, _⟩ := DataW.trod_int T.bal.i64 (show DataW.trod enc P w base spare held n ti [c2] = some x1 from g1)
    injection e0 with e0 e0'
    injection e0' with e0' _
    injection e1 with e1 _
    exact ⟨a, b, c, by rw [e0, e0', e1]⟩
theorem open_meta {e tb ti : TypeId} (T : MetaTy P e tb ti) {r : Reach} {b0 : Nat} {v : Value} {d : DataW H} {p : List MemPlace} (hv : Value.okWide P w r b0 e v) (h : DataW.Trod enc P w base spare held e v d p) : ∃ a b c : Int, v = .agg #[.int .i64 a, .int .i64 b, .int .i64 c] := by
  obtain ⟨f0, f1, hs, _⟩ := T.fs
  obtain ⟨cs, rfl, _⟩ := okWide_struct hs hv
  obtain ⟨fuel, hf⟩ := h
  obtain ⟨a, b, c, hcs⟩ := trod_meta T hf
  refine ⟨a, b, c, ?_⟩
  have e : (Value.cells (.agg cs)).toList = cs.toList := rfl
  rw [e] at hcs
  obtain ⟨cs⟩ := cs
  simp at hcs
  rw [hcs]
/-- A ballot of a list. -/
structure Bal where
  x : Int := 0
  y : Int := 0
instance : Inhabited Bal := ⟨{}⟩
def Bal.cells (b : Bal) : List Value := [.int .i64 b.x, .int .i64 b.y]
/-- A step: is it a promise; the ballot; the power; what is kept. -/
structure StepU where
  p : Bool := false
  x : Int := 0
  y : Int := 0
  w : Int := 0
  kA : Option Addr := none
  kn : Nat := 0
  kc : Nat := 0
  kl : List Bool := []
instance : Inhabited StepU := ⟨{}⟩
def StepU.cells (s : StepU) : List Value := [.bool s.p, .int .i64 s.x, .int .i64 s.y, .int .i8 s.w, .slice s.kA s.kn s.kc]
structure StepU.Ok (s : StepU) (w : World) (B : Nat) : Prop where
  power : (Lit.int .i8 s.w).wf = true
  keep : Vs w B s.kA s.kn s.kc (s.kl.map .bool)
structure StepTy (P : Program) (e tq tb ti t8 tk eb : TypeId) : Prop where
  fs : ∃ f0 f1 f2 f3 : Field, P.underlying e = some (.struct #[f0, f1, f2, f3]) ∧ (f0.type = tq ∧ f0.offset = 0) ∧ (f1.type = tb ∧ f1.offset = 1) ∧ (f2.type = t8 ∧ f2.offset = 3) ∧ (f3.type = tk ∧ f3.offset = 4)
  cells : P.cellsOf e = 5
  bal : BalTy P tb ti
  bool : P.underlying tq = some .bool
  i8 : P.underlying t8 = some (.int .i8)
  keep : P.underlying tk = some (.slice eb) ∧ P.underlying eb = some .bool
  one : P.cellsOf tq = 1 ∧ P.cellsOf t8 = 1 ∧ P.cellsOf tk = 1 ∧ P.cellsOf eb = 1
theorem trod_step {e tq tb ti t8 tk eb : TypeId} (T : StepTy P e tq tb ti t8 tk eb) {fuel : Nat} {cs : List Value} {x : DataW H × List MemPlace} (h : DataW.trod enc P w base spare held fuel e cs = some x) : ∃ s : StepU, cs = s.cells ∧ s.Ok w w.heap.size := by
  obtain ⟨f0, f1, f2, f3, hs, ⟨y0, o0⟩, ⟨y1, o1⟩, ⟨y2, o2⟩, y3, o3⟩ := T.fs
  obtain ⟨xs, n, _, _, hcl, hxl, hg⟩ := DataW.trod_struct hs h
  rw [T.cells] at hcl
  match cs, hcl, xs, hxl with
  | [c0, c1, c2, c3, c4], _, [x0, x1, x2, x3], _ =>
    have g0 := hg 0 f0 rfl
    have g1 := hg 1 f1 rfl
    have g2 := hg 2 f2 rfl
    have g3 := hg 3 f3 rfl
    rw [y0, o0, T.one.1] at g0
    rw [y1, o1, T.bal.cells] at g1
    rw [y2, o2, T.one.2.1] at g2
    rw [y3, o3, T.one.2.2.1] at g3
    obtain ⟨q, e0, _⟩ := DataW.trod_bool T.bool (show DataW.trod enc P w base spare held n tq [c0] = some x0 from g0)
    obtain ⟨a, b, e1, _⟩ := trod_bal T.bal (show DataW.trod enc P w base spare held n tb [c1, c2] = some x1 from g1)
    obtain ⟨z, e2, _, w2⟩ := DataW.trod_int T.i8 (show DataW.trod enc P w base spare held n t8 [c3] = some x2 from g2)
    obtain ⟨kA, kn, kc, kl, e3, hk⟩ := trod_bools T.keep.1 T.keep.2 T.one.2.2.2 (show DataW.trod enc P w base spare held n tk [c4] = some x3 from g3)
    injection e0 with e0 _
    injection e1 with e1 e1'
    injection e1' with e1' _
    injection e2 with e2 _
    injection e3 with e3 _
    exact ⟨⟨q, a, b, z, kA, kn, kc, kl⟩, by rw [e0, e1, e1', e2, e3]; rfl, ⟨w2, hk⟩⟩
end
end Go.Proofs.YtlikhmhomkiadaaDoor

namespace Go.Proofs.YtlikhmhomkiadaaDoor
set_option maxRecDepth 100000
set_option maxRecDepth 100000
open Go Go.RowKit Go.ChangeShapes Go.WideShapes Go.Deep

theorem bal_ty : BalTy Tryd.prog 23 3 := ⟨⟨_, _, Tryd.underlying23, ⟨rfl, rfl⟩, rfl, rfl⟩, by kernel_rfl, by kernel_rfl, Tryd.underlying3⟩
theorem meta_ty : MetaTy Tryd.prog 25 23 3 := ⟨⟨_, _, Tryd.underlying25, ⟨rfl, rfl⟩, rfl, rfl⟩, by kernel_rfl, bal_ty⟩
/-- Metadata that came in, opened (the name is the frame's: open_t and the type's number). -/
theorem open_t25 {H : Type} {enc : TypeId × Value → H} {w : World} {base : Nat} {sp : Nat → Bool} {held : Bool} {r : Reach} {b0 : Nat} {v : Value} {d : DataW H} {p : List MemPlace}
    (hv : Value.okWide Tryd.prog w r b0 25 v) (h : DataW.Trod enc Tryd.prog w base sp held 25 v d p) : ∃ a b c : Int, v = .agg #[.int .i64 a, .int .i64 b, .int .i64 c] := open_meta meta_ty hv h
end Go.Proofs.YtlikhmhomkiadaaDoor

namespace Go.Proofs.YtlikhmhomkiadaaDoor
set_option maxRecDepth 100000
set_option maxRecDepth 100000
open Go Go.RowKit Go.ChangeShapes Go.WideShapes Go.Deep

theorem open_t56 {H : Type} {enc : TypeId × Value → H} {w : World} {base : Nat} {held : Bool} {r : Reach} {b0 : Nat} {v : Value} {d : DataW H} {p : List MemPlace}
    (hv : Value.okWide Tryd.prog w r b0 56 v) (h : DataW.Trod enc Tryd.prog w base (fun _ => true) held 56 v d p) : ∃ (A : Option Addr) (n c : Nat) (l : List Bal), v = .slice A n c ∧ Ls Bal.cells 2 w w.heap.size A n c l ∧ ∀ a ∈ l, True :=
  open_list (cells := Bal.cells) (N := 2) (Ok := fun _ => True) (fun _ => rfl) (by omega) Tryd.underlying56 (by kernel_rfl) (fun h => by
    obtain ⟨a, b, e, _⟩ := trod_bal bal_ty h
    exact ⟨⟨a, b⟩, e, trivial⟩) hv h
theorem step_ty : StepTy Tryd.prog 48 4 23 3 45 46 4 :=
  ⟨⟨_, _, _, _, Tryd.underlying48, ⟨rfl, rfl⟩, ⟨rfl, rfl⟩, ⟨rfl, rfl⟩, rfl, rfl⟩, by kernel_rfl, bal_ty, Tryd.underlying4, Tryd.underlying45, ⟨Tryd.underlying46, Tryd.underlying4⟩, ⟨by kernel_rfl, by kernel_rfl, by kernel_rfl, by kernel_rfl⟩⟩
theorem open_t41 {H : Type} {enc : TypeId × Value → H} {w : World} {base : Nat} {held : Bool} {r : Reach} {b0 : Nat} {v : Value} {d : DataW H} {p : List MemPlace}
    (hv : Value.okWide Tryd.prog w r b0 41 v) (h : DataW.Trod enc Tryd.prog w base (fun _ => true) held 41 v d p) : ∃ (A : Option Addr) (n c : Nat) (l : List StepU), v = .slice A n c ∧ Ls StepU.cells 5 w w.heap.size A n c l ∧ ∀ a ∈ l, a.Ok w w.heap.size :=
  open_list (cells := StepU.cells) (N := 5) (Ok := fun a => a.Ok w w.heap.size) (fun _ => rfl) (by omega) Tryd.underlying41 (by kernel_rfl) (fun h => trod_step step_ty h) hv h
end Go.Proofs.YtlikhmhomkiadaaDoor

namespace Go.Proofs.YtlikhmhomkiadaaDoor
set_option maxRecDepth 100000

end Go.Proofs.YtlikhmhomkiadaaDoor

namespace Go.Proofs.YtlikhmhomkiadaaDoor
set_option maxRecDepth 100000
open Go Go.RowKit

theorem tag_neq (a b c d e a' b' c' d' e' : Int) (w : World) : (binOp .neq 97 (.agg #[.int .i64 a, .int .i64 b, .int .i64 c, .int .i64 d, .int .i64 e]) (.agg #[.int .i64 a', .int .i64 b', .int .i64 c', .int .i64 d', .int .i64 e'])).run Tryd.prog w =
    .ok (.bool (!(a == a' && (b == b' && (c == c' && (d == d' && e == e')))))) w := by
  have hf : Tryd.prog.stoodInHeld 97 = false := by kernel_rfl
  have hu := Tryd.underlying97
  rw [run_neq_struct, run_equalIn_agg _ _ _ _ _ (by rw [Program.fieldsOf, hu]) hf, Program.fieldsOf, hu]
  simp [Op.eqFields, go_sem]
  by_cases h1 : a = a' <;> by_cases h2 : b = b' <;> by_cases h3 : c = c' <;> by_cases h4 : d = d' <;> by_cases h5 : e = e' <;> simp [h1, h2, h3, h4, h5]
end Go.Proofs.YtlikhmhomkiadaaDoor
