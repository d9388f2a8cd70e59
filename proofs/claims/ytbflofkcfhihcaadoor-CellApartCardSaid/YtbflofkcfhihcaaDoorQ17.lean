/-
  What the row's listing of the four tables gives the walks, and that the program's own start meets it.
  Lists of lists of bytes that came in, opened; arrays of two integers, of two bools; over any program with such types.
  The cells' door: lists of lists of bytes, lists of bools, arrays of two, that came in, opened; the frame's door besides.
  Which powers of x are 1: none up to 12,000; so two bits of a row are told apart.
  Plain facts on frames: which checks tell the good ones; bits that are turned about.
-/
import Derived.Test.YtbflofkcfhihcaaDoorQ02
import Derived.Test.YtbflofkcfhihcaaDoorQ05
import Derived.Test.YtbflofkcfhihcaaDoorQ06
import Derived.Test.YtbflofkcfhihcaaDoorQ12
import Derived.Test.YtbflofkcfhihcaaDoorQ16
import Derived.Test.YtbflofkcfhihcaaDoorRows
import Derived.ProofKit
import Derived.LaidMore
import Derived.Lib.LaidTab
import Derived.Stop.Joined
import Derived.Laws.IdiomArrays
namespace Go.Proofs.YtbflofkcfhihcaaDoor
set_option maxRecDepth 100000
open Go Go.ChangeShapes Go.WideShapes Go.ChangeAt Go.WideMaps Go.WideElems Go.RowKit Go.Deep

def laidList : List (String × DataW Unit) := [("sexton/crc.halves", Rows.laid_sexton_crc_halves), ("sexton/octet.bounds", Rows.laid_sexton_octet_bounds), ("sexton/tag.regions", Rows.laid_sexton_tag_regions), ("sexton/tag.widths", Rows.laid_sexton_tag_widths)]

theorem door_met (os : Os) (args : Array Value) : laidMetH Tryd.prog laidList ((World.doorLaid Tryd.prog 400 os).forCall (fun _ _ => 0) ⟨#[], args, []⟩).memory :=
  laidMetH_of_parts3 (fuel := 8) (laidMet_of_run' 8 (by kernel_rfl) (by kernel_rfl)) (by kernel_rfl) (by kernel_rfl)

theorem tag_fields (fs : Array Field) (hs : Tryd.prog.underlying 58 = some (.struct fs)) (j : Nat) (f : Field) (hf : fs[j]? = some f) : Tryd.prog.underlying f.type = some (.int .i64) := by
  rw [Tryd.underlying58] at hs
  injection hs with hs
  injection hs with hs
  subst hs
  match j, hf with
  | 0, hf => injection hf with hf; subst hf; exact Tryd.underlying3
  | 1, hf => injection hf with hf; subst hf; exact Tryd.underlying3
  | 2, hf => injection hf with hf; subst hf; exact Tryd.underlying3
  | 3, hf => injection hf with hf; subst hf; exact Tryd.underlying3
  | 4, hf => injection hf with hf; subst hf; exact Tryd.underlying3
  | (j + 5), hf => simp at hf
/-- A tag that came in, opened (the name is the frame's: open_t and the type's number). -/
theorem open_t58 {H : Type} {enc : TypeId × Value → H} {w : World} {base : Nat} {sp : Nat → Bool} {held : Bool} {r : Reach} {b0 : Nat} {v : Value} {d : DataW H} {p : List MemPlace}
    (hv : Value.okWide Tryd.prog w r b0 58 v) (h : DataW.Trod enc Tryd.prog w base sp held 58 v d p) : ∃ a b c d' e : Int, v = .agg #[.int .i64 a, .int .i64 b, .int .i64 c, .int .i64 d', .int .i64 e] :=
  open_agg5i Tryd.underlying58 (by kernel_rfl) (by kernel_rfl) (tag_fields _ Tryd.underlying58) rfl hv h

theorem laid_o {W : World} {rest : List (String × DataW Unit)} (h : laidMet Tryd.prog (("sexton/octet.bounds", Rows.laid_sexton_octet_bounds) :: rest) W) : Laid W := by
  have hg : Tryd.prog.globalNamed "sexton/octet.bounds" = some 2 := by kernel_rfl
  have ht : (Tryd.prog.globals[2]?).map (·.type) = some 123 := by kernel_rfl
  have hv : W.var? Tryd.prog "sexton/octet.bounds" = some (([0, 256, 65536, 0, 4294967296, 0, 281474976710656] : List Int).map fun z => Value.int .i64 z).toArray :=
    Lib.tabIs_of_head hg ht Tryd.underlying123 Tryd.underlying3 (by kernel_rfl) (by kernel_rfl) h
  have hc := fun i => World.var?_cell hg hv i
  exact ⟨hc 0, hc 1, hc 2, hc 3, hc 4, hc 5, hc 6⟩

theorem laid_t {W : World} {rest : List (String × DataW Unit)} (h : laidMet Tryd.prog (("sexton/tag.regions", Rows.laid_sexton_tag_regions) :: rest) W) : LaidT W := by
  have hg : Tryd.prog.globalNamed "sexton/tag.regions" = some 0 := by kernel_rfl
  have ht : (Tryd.prog.globals[0]?).map (·.type) = some 99 := by kernel_rfl
  have hc := tab2_of_head (k := .i64) (rows := [[0, 0], [2, 1], [2, 1], [24, 1], [48, 2], [16, 2]]) hg ht Tryd.underlying99 Tryd.underlying88 (by kernel_rfl) (by kernel_rfl)
    (fun j f hf => by
      match j, hf with
      | 0, hf => injection hf with hf; subst hf; exact Tryd.underlying3
      | 1, hf => injection hf with hf; subst hf; exact Tryd.underlying3
      | (j + 2), hf => simp at hf) h
  have row : ∀ (i : Nat) (a b : Int), ([[0, 0], [2, 1], [2, 1], [24, 1], [48, 2], [16, 2]] : List (List Int))[i]? = some [a, b] → W.cell? ⟨0, i * 2, none⟩ = some (.int .i64 a) ∧ W.cell? ⟨0, i * 2 + 1, none⟩ = some (.int .i64 b) := fun i a b hi => ⟨hc i [a, b] hi 0 a rfl, hc i [a, b] hi 1 b rfl⟩
  intro r hr
  have hj' : r = 0 ∨ r = 1 ∨ r = 2 ∨ r = 3 ∨ r = 4 ∨ r = 5 := by omega
  rcases hj' with rfl | rfl | rfl | rfl | rfl | rfl
  · exact row 0 0 0 rfl
  · exact row 1 2 1 rfl
  · exact row 2 2 1 rfl
  · exact row 3 24 1 rfl
  · exact row 4 48 2 rfl
  · exact row 5 16 2 rfl

theorem laid_w {W : World} {rest : List (String × DataW Unit)} (h : laidMet Tryd.prog (("sexton/tag.widths", Rows.laid_sexton_tag_widths) :: rest) W) : LaidW W := by
  have hg : Tryd.prog.globalNamed "sexton/tag.widths" = some 1 := by kernel_rfl
  have ht : (Tryd.prog.globals[1]?).map (·.type) = some 107 := by kernel_rfl
  have hv : W.var? Tryd.prog "sexton/tag.widths" = some (([1, 1, 1, 6, 6] : List Int).map fun z => Value.int .i64 z).toArray :=
    Lib.tabIs_of_head hg ht Tryd.underlying107 Tryd.underlying3 (by kernel_rfl) (by kernel_rfl) h
  have hc := fun i => World.var?_cell hg hv i
  intro k hk
  have hj' : k = 0 ∨ k = 1 ∨ k = 2 ∨ k = 3 ∨ k = 4 := by omega
  rcases hj' with rfl | rfl | rfl | rfl | rfl
  · exact hc 0
  · exact hc 1
  · exact hc 2
  · exact hc 3
  · exact hc 4

theorem laid_h {W : World} {rest : List (String × DataW Unit)} (h : laidMet Tryd.prog (("sexton/crc.halves", Rows.laid_sexton_crc_halves) :: rest) W) : LaidH W := by
  have hg : Tryd.prog.globalNamed "sexton/crc.halves" = some 3 := by kernel_rfl
  have ht : (Tryd.prog.globals[3]?).map (·.type) = some 125 := by kernel_rfl
  have hv : W.var? Tryd.prog "sexton/crc.halves" = some (([0, 274646895, 549293790, 820201905, 1098587580, 1361435347, 1640403810, 1905808397, 2197175160, 2460548119, 2722870694, 2987750089, 3280807620, 3553878443, 3811616794, 4084100981] : List Int).map fun z => Value.int .u32 z).toArray :=
    Lib.tabIs_of_head hg ht Tryd.underlying125 Tryd.underlying97 (by kernel_rfl) (by kernel_rfl) h
  have hc := fun i => World.var?_cell hg hv i
  intro i hi
  have e : ∀ j, j < 16 → ((([0, 274646895, 549293790, 820201905, 1098587580, 1361435347, 1640403810, 1905808397, 2197175160, 2460548119, 2722870694, 2987750089, 3280807620, 3553878443, 3811616794, 4084100981] : List Int).map fun z => Value.int .u32 z).toArray)[j]? = some (.int .u32 ((stps 4 j : Nat) : Int)) := by
    intro j hj
    have hj' : j = 0 ∨ j = 1 ∨ j = 2 ∨ j = 3 ∨ j = 4 ∨ j = 5 ∨ j = 6 ∨ j = 7 ∨ j = 8 ∨ j = 9 ∨ j = 10 ∨ j = 11 ∨ j = 12 ∨ j = 13 ∨ j = 14 ∨ j = 15 := by omega
    rcases hj' with rfl | rfl | rfl | rfl | rfl | rfl | rfl | rfl | rfl | rfl | rfl | rfl | rfl | rfl | rfl | rfl <;> rfl
  exact (hc i).trans (e i hi)

theorem laid_of {W : World} (h : laidMetH Tryd.prog laidList W) : LaidF W := by
  rw [MakeChecks.laidMetH_plain _ _ _ (by kernel_rfl)] at h
  exact ⟨⟨laid_o h.tail, laid_t h.tail.tail, laid_w h.tail.tail.tail⟩, laid_h h⟩
end Go.Proofs.YtbflofkcfhihcaaDoor

namespace Go.Proofs.YtbflofkcfhihcaaDoor
open Go Go.RowKit Go.ChangeShapes Go.WideShapes Go.Deep

/-- A list of bytes: where it lies, and what it holds. -/
structure Lst where
  A : Option Addr := none
  n : Nat := 0
  c : Nat := 0
  l : List Nat := []
instance : Inhabited Lst := ⟨{}⟩
def Lst.Ok (a : Lst) (w : World) (B : Nat) : Prop := Bs w B a.A a.n a.c a.l
/-- A list of them. -/
structure Lsts (w : World) (B : Nat) (A : Option Addr) (n c : Nat) (l : List Lst) : Prop where
  len : l.length = n
  cap : n ≤ c
  most : c ≤ 9223372036854775807
  each : ∀ a ∈ l, a.Ok w B
  rd : 0 < n → ∃ g o, A = some ⟨g, o, none⟩ ∧ g < B ∧ ∀ j a, l[j]? = some a → w.cell? ⟨g, o + j, none⟩ = some (.slice a.A a.n a.c)
  nil_ : A = none → c = 0
theorem Lsts.below {w w' : World} {B : Nat} {A : Option Addr} {n c : Nat} {l : List Lst} (h : Lsts w B A n c l) (hb : Below B w w') : Lsts w' B A n c l :=
  ⟨h.len, h.cap, h.most, fun a ha => (h.each a ha).below hb, fun hn => by
    obtain ⟨g, o, e, hg, hc⟩ := h.rd hn
    exact ⟨g, o, e, hg, fun j a ha => (hb.cell (p := ⟨g, o + j, none⟩) hg).trans (hc j a ha)⟩, h.nil_⟩
theorem Lsts.more {w : World} {B B' : Nat} {A : Option Addr} {n c : Nat} {l : List Lst} (h : Lsts w B A n c l) (hB : B ≤ B') : Lsts w B' A n c l :=
  ⟨h.len, h.cap, h.most, fun a ha => (h.each a ha).more hB, fun hn => by
    obtain ⟨g, o, e, hg, hc⟩ := h.rd hn
    exact ⟨g, o, e, by omega, hc⟩, h.nil_⟩
theorem Lsts.at_ {w : World} {B : Nat} {A : Option Addr} {n c : Nat} {l : List Lst} (h : Lsts w B A n c l) {j : Nat} (hj : j < n) : ∃ g o a, A = some ⟨g, o, none⟩ ∧ g < B ∧ l[j]? = some a ∧ Bs w B a.A a.n a.c a.l ∧
    w.cell? ⟨g, o + j, none⟩ = some (.slice a.A a.n a.c) := by
  obtain ⟨g, o, e, hg, hc⟩ := h.rd (by omega)
  have hj' : j < l.length := by rw [h.len]; exact hj
  have ha : l[j]? = some l[j] := List.getElem?_eq_getElem hj'
  exact ⟨g, o, l[j], e, hg, ha, h.each _ (List.getElem_mem hj'), hc j _ ha⟩

section
variable {H : Type} {enc : TypeId × Value → H} {P : Program} {w : World} {base : Nat} {spare : Nat → Bool} {held : Bool}

theorem trod_lists {t e b : TypeId} {fuel : Nat} {cs : List Value} {x : DataW H × List MemPlace} (ht : P.underlying t = some (.slice e)) (he : P.underlying e = some (.slice b)) (hb : P.underlying b = some (.int .u8)) (hce : P.cellsOf e = 1) (hcb : P.cellsOf b = 1)
    (hsp : ∀ g, spare g = true) (h : DataW.trod enc P w base spare held fuel t cs = some x) : ∃ (A : Option Addr) (n c : Nat) (l : List Lst), cs = [.slice A n c] ∧ Lsts w w.heap.size A n c l := by
  rcases open_slice1 ht hce h with ⟨rfl, _⟩ | ⟨a, len, cap, m, n, V, D, Pl, rfl, _, hl, hm, hmm, _, hi⟩
  · exact ⟨none, 0, 0, [], rfl, rfl, Nat.le_refl _, by omega, fun a ha => (by cases ha), fun h => absurd h (by omega), fun _ => rfl⟩
  · have hle : len ≤ m := by rw [hmm]; split <;> omega
    have each : ∀ i, i < len → ∃ q : Lst, w.cell? (a.add i) = some (.slice q.A q.n q.c) ∧ q.Ok w w.heap.size := fun i hil => by
      obtain ⟨h1, h2⟩ := hi i (by omega)
      obtain ⟨A, k, c, l, hcs, hok⟩ := trod_bytes he hb hcb hsp h2
      injection hcs with hcs
      rw [hcs] at h1
      exact ⟨⟨A, k, c, l⟩, h1, hok⟩
    obtain ⟨f, hf⟩ := choose_lt each
    refine ⟨some a, len, cap, (List.range len).map f, rfl, by simp, hl, by unfold maxLen at hm; exact hm, fun b hb => ?_, fun hn => ?_, fun h => by cases h⟩
    · obtain ⟨i, hil, rfl⟩ := List.mem_map.1 hb
      exact (hf i (List.mem_range.1 hil)).2
    · obtain ⟨g, o, spot⟩ := a
      have hc := (hf 0 hn).1
      have hspot : spot = none := by simpa [Addr.add] using World.cell?_spot hc
      subst hspot
      refine ⟨g, o, rfl, ?_, fun j b hb => ?_⟩
      · have := World.block_lt_of_cell? w _ hc
        simpa [Addr.add] using this
      · rw [List.getElem?_map] at hb
        obtain ⟨i, hi2, rfl⟩ := Option.map_eq_some_iff.1 hb
        obtain ⟨hjl, hji⟩ := List.getElem?_eq_some_iff.1 hi2
        simp at hjl hji
        subst hji
        have := (hf j hjl).1
        rwa [Addr.add_lit] at this
theorem open_lists {t e b : TypeId} (ht : P.underlying t = some (.slice e)) (he : P.underlying e = some (.slice b)) (hb : P.underlying b = some (.int .u8)) (hce : P.cellsOf e = 1) (hcb : P.cellsOf b = 1) {r : Reach} {b0 : Nat} {v : Value} {d : DataW H} {p : List MemPlace}
    (hv : Value.okWide P w r b0 t v) (h : DataW.Trod enc P w base (fun _ => true) held t v d p) : ∃ (A : Option Addr) (n c : Nat) (l : List Lst), v = .slice A n c ∧ Lsts w w.heap.size A n c l := by
  obtain ⟨A, n, c, rfl⟩ := okWide_slice ht hv
  obtain ⟨fuel, hf⟩ := h
  obtain ⟨A', n', c', l, hcs, hl⟩ := trod_lists ht he hb hce hcb (fun _ => rfl) hf
  simp [Value.cells] at hcs
  obtain ⟨rfl, rfl, rfl⟩ := hcs
  exact ⟨_, _, _, l, rfl, hl⟩
theorem trod_array2 {t e : TypeId} {fuel : Nat} {c0 c1 : Value} {x : DataW H × List MemPlace} (ht : P.underlying t = some (.array 2 e)) (hce : P.cellsOf e = 1)
    (h : DataW.trod enc P w base spare held fuel t [c0, c1] = some x) :
    ∃ y0 y1 n, x = (.agg [y0.1, y1.1], y0.2 ++ y1.2) ∧ DataW.trod enc P w base spare held n e [c0] = some y0 ∧ DataW.trod enc P w base spare held n e [c1] = some y1 := by
  cases fuel with
  | zero => simp [DataW.trod] at h
  | succ n =>
    unfold DataW.trod at h
    rw [ht] at h
    have r2 : List.range 2 = [0, 1] := rfl
    simp [r2, hce] at h
    obtain ⟨_, h⟩ := h
    cases h0 : DataW.trod enc P w base spare held n e [c0] with
    | none => simp [h0] at h
    | some y0 =>
      cases h1 : DataW.trod enc P w base spare held n e [c1] with
      | none => simp [h0, h1] at h
      | some y1 =>
        simp [h0, h1] at h
        exact ⟨y0, y1, n, h.symm, h0, h1⟩
end
theorem open_arr2 {H : Type} {enc : TypeId × Value → H} {P : Program} {w : World} {base : Nat} {sp : Nat → Bool} {held : Bool} {r : Reach} {b0 : Nat} {t e : TypeId} {k : IntKind} {v : Value} {d : DataW H} {p : List MemPlace}
    (ht : P.underlying t = some (.array 2 e)) (he : P.underlying e = some (.int k)) (hce : P.cellsOf e = 1) (hC : P.cellsOf t = 2)
    (hv : Value.okWide P w r b0 t v) (h : DataW.Trod enc P w base sp held t v d p) : ∃ x y : Int, v = .agg #[.int k x, .int k y] ∧ (Lit.int k x).wf = true ∧ (Lit.int k y).wf = true := by
  simp only [Value.okWide, ht] at hv
  obtain ⟨cs, rfl, hsz, _⟩ := hv
  rw [hC] at hsz
  obtain ⟨c0, c1, rfl⟩ : ∃ c0 c1, cs = #[c0, c1] := by
    obtain ⟨l⟩ := cs
    match l, hsz with
    | [c0, c1], _ => exact ⟨c0, c1, rfl⟩
  obtain ⟨fuel, hf⟩ := h
  obtain ⟨y0, y1, n, _, h0, h1⟩ := trod_array2 ht hce (show DataW.trod enc P w base sp held fuel t [c0, c1] = some (d, p) from hf)
  obtain ⟨x0, e0, _, w0⟩ := DataW.trod_int he h0
  obtain ⟨x1, e1, _, w1⟩ := DataW.trod_int he h1
  injection e0 with e0 _
  injection e1 with e1 _
  subst e0; subst e1
  exact ⟨x0, x1, rfl, w0, w1⟩
theorem open_arr2b {H : Type} {enc : TypeId × Value → H} {P : Program} {w : World} {base : Nat} {sp : Nat → Bool} {held : Bool} {r : Reach} {b0 : Nat} {t e : TypeId} {v : Value} {d : DataW H} {p : List MemPlace}
    (ht : P.underlying t = some (.array 2 e)) (he : P.underlying e = some .bool) (hce : P.cellsOf e = 1) (hC : P.cellsOf t = 2)
    (hv : Value.okWide P w r b0 t v) (h : DataW.Trod enc P w base sp held t v d p) : ∃ x y : Bool, v = .agg #[.bool x, .bool y] := by
  simp only [Value.okWide, ht] at hv
  obtain ⟨cs, rfl, hsz, _⟩ := hv
  rw [hC] at hsz
  obtain ⟨c0, c1, rfl⟩ : ∃ c0 c1, cs = #[c0, c1] := by
    obtain ⟨l⟩ := cs
    match l, hsz with
    | [c0, c1], _ => exact ⟨c0, c1, rfl⟩
  obtain ⟨fuel, hf⟩ := h
  obtain ⟨y0, y1, n, _, h0, h1⟩ := trod_array2 ht hce (show DataW.trod enc P w base sp held fuel t [c0, c1] = some (d, p) from hf)
  obtain ⟨x0, e0, _⟩ := DataW.trod_bool he h0
  obtain ⟨x1, e1, _⟩ := DataW.trod_bool he h1
  injection e0 with e0 _
  injection e1 with e1 _
  subst e0; subst e1
  exact ⟨x0, x1, rfl⟩
end Go.Proofs.YtbflofkcfhihcaaDoor

namespace Go.Proofs.YtbflofkcfhihcaaDoor
set_option maxRecDepth 100000
open Go Go.RowKit Go.ChangeShapes Go.WideShapes

theorem open_t38 {H : Type} {enc : TypeId × Value → H} {w : World} {base : Nat} {held : Bool} {r : Reach} {b0 : Nat} {v : Value} {d : DataW H} {p : List MemPlace}
    (hv : Value.okWide Tryd.prog w r b0 38 v) (h : DataW.Trod enc Tryd.prog w base (fun _ => true) held 38 v d p) : ∃ (A : Option Addr) (n c : Nat) (l : List Lst), v = .slice A n c ∧ Lsts w w.heap.size A n c l :=
  open_lists Tryd.underlying38 Tryd.underlying22 Tryd.underlying5 (by kernel_rfl) (by kernel_rfl) hv h
theorem open_t39 {H : Type} {enc : TypeId × Value → H} {w : World} {base : Nat} {held : Bool} {r : Reach} {b0 : Nat} {v : Value} {d : DataW H} {p : List MemPlace}
    (hv : Value.okWide Tryd.prog w r b0 39 v) (h : DataW.Trod enc Tryd.prog w base (fun _ => true) held 39 v d p) : ∃ (A : Option Addr) (n c : Nat) (l : List Bool), v = .slice A n c ∧ Vs w w.heap.size A n c (l.map .bool) :=
  open_bools Tryd.underlying39 Tryd.underlying4 (by kernel_rfl) hv h
theorem open_t52 {H : Type} {enc : TypeId × Value → H} {w : World} {base : Nat} {sp : Nat → Bool} {held : Bool} {r : Reach} {b0 : Nat} {v : Value} {d : DataW H} {p : List MemPlace}
    (hv : Value.okWide Tryd.prog w r b0 52 v) (h : DataW.Trod enc Tryd.prog w base sp held 52 v d p) : ∃ x y : Int, v = .agg #[.int .u16 x, .int .u16 y] ∧ (Lit.int .u16 x).wf = true ∧ (Lit.int .u16 y).wf = true :=
  open_arr2 Tryd.underlying52 Tryd.underlying51 (by kernel_rfl) (by kernel_rfl) hv h
theorem open_t53 {H : Type} {enc : TypeId × Value → H} {w : World} {base : Nat} {sp : Nat → Bool} {held : Bool} {r : Reach} {b0 : Nat} {v : Value} {d : DataW H} {p : List MemPlace}
    (hv : Value.okWide Tryd.prog w r b0 53 v) (h : DataW.Trod enc Tryd.prog w base sp held 53 v d p) : ∃ x y : Bool, v = .agg #[.bool x, .bool y] :=
  open_arr2b Tryd.underlying53 Tryd.underlying4 (by kernel_rfl) (by kernel_rfl) hv h
end Go.Proofs.YtbflofkcfhihcaaDoor

namespace Go.Proofs.YtbflofkcfhihcaaDoor
set_option maxRecDepth 100000
open Go

def walkB : Nat → Nat → Nat → Bool
  | 0, _, _ => true
  | m + 1, b, r => walk1 b r && (match stps b r with
    | 0 => false
    | q + 1 => walkB m b (q + 1))
theorem walkB_get {m b r : Nat} (h : walkB m b r = true) (j : Nat) (hj : j < m * b) : stps j r ≠ 1 := by
  induction m generalizing r j with
  | zero => omega
  | succ m ih =>
    simp only [walkB, Bool.and_eq_true] at h
    by_cases hb : j < b
    · exact walk1_get h.1 j hb
    · have h2 := h.2
      have e : stps j r = stps (j - b) (stps b r) := by rw [← stps_add, show b + (j - b) = j by omega]
      rw [e]
      split at h2
      · cases h2
      · rename_i q hq
        rw [hq]
        exact ih h2 (j - b) (by rw [Nat.succ_mul] at hj; omega)
set_option maxRecDepth 100000 in
theorem walk_all : walkB 120 100 (stp 1) = true := by decide +kernel
theorem ord_ne {d : Nat} (h0 : 0 < d) (h : d ≤ 12000) : stps d 1 ≠ 1 := by
  have := walkB_get walk_all (d - 1) (by omega)
  rw [show d = 1 + (d - 1) by omega, stps_add]
  exact this
theorem bit_inj {m p q : Nat} (hm : m ≤ 12000) (hp : p < m) (hq : q < m) (h : stps (m - p) 1 = stps (m - q) 1) : p = q := by
  rcases Nat.lt_trichotomy p q with hlt | heq | hlt
  · exfalso
    rw [show m - p = (q - p) + (m - q) by omega, stps_add] at h
    exact ord_ne (show 0 < q - p by omega) (by omega) (stps_inj (stps_lt (by omega)) (by omega) h)
  · exact heq
  · exfalso
    rw [show m - q = (p - q) + (m - p) by omega, stps_add] at h
    exact ord_ne (show 0 < p - q by omega) (by omega) (stps_inj (stps_lt (by omega)) (by omega) h.symm)

def flips : List Nat → List Nat → List Nat
  | l, [] => l
  | l, p :: ps => flips (flipB l p) ps
theorem flips_snoc (l : List Nat) (ps : List Nat) (p : Nat) : flips l (ps ++ [p]) = flipB (flips l ps) p := by
  induction ps generalizing l with
  | nil => rfl
  | cons q ps ih => exact ih _
theorem flips_length (l ps : List Nat) : (flips l ps).length = l.length := by
  induction ps generalizing l with
  | nil => rfl
  | cons p ps ih => rw [flips, ih, flipB_length]
theorem flips_lt {l : List Nat} (ps : List Nat) (hl : ∀ x ∈ l, x < 256) : ∀ x ∈ flips l ps, x < 256 := by
  induction ps generalizing l with
  | nil => exact hl
  | cons p ps ih => exact ih (flipB_lt p hl)
theorem few_ne {l ps : List Nat} (hl : ∀ x ∈ l, x < 256) (hn : 8 * l.length ≤ 12000) (hps : ps.length ≤ 3) (hp : ∀ p ∈ ps, p < 8 * l.length) (he : crcS l = crcS (flips l ps)) : l = flips l ps := by
  have h1 : (1 : Nat) < 4294967296 := by omega
  match ps, hps, hp, he with
  | [], _, _, _ => rfl
  | [p], _, hp, he =>
    exfalso
    have := crcS_diff hl (flips_lt [p] hl) (flipB_feed _ (hp p (by simp))) he
    have := stps_nz h1 this
    omega
  | [p, q], _, hp, he =>
    have e : feed 4294967295 (flips l [p, q]) = feed 4294967295 l ^^^ (stps (8 * l.length - p) 1 ^^^ stps (8 * l.length - q) 1) := by
      simp only [flips]
      rw [flipB_feed _ (by rw [flipB_length]; exact hp q (by simp)), flipB_feed _ (hp p (by simp)), flipB_length, Nat.xor_assoc]
    have h2 := xor_eq_zero' (crcS_diff hl (flips_lt [p, q] hl) e he)
    have h3 := bit_inj hn (hp p (by simp)) (hp q (by simp)) h2
    subst h3
    simp only [flips]
    rw [flipB_twice]
  | [p, q, r], _, hp, he =>
    exfalso
    have e : feed 4294967295 (flips l [p, q, r]) = feed 4294967295 l ^^^ (stps (8 * l.length - p) 1 ^^^ stps (8 * l.length - q) 1 ^^^ stps (8 * l.length - r) 1) := by
      simp only [flips]
      rw [flipB_feed _ (by rw [flipB_length, flipB_length]; exact hp r (by simp)), flipB_feed _ (by rw [flipB_length]; exact hp q (by simp)), flipB_feed _ (hp p (by simp))]
      simp only [flipB_length]
      ac_rfl
    have h2 := crcS_diff hl (flips_lt [p, q, r] hl) e he
    have h3 := congrArg par h2
    rw [par_xor, par_xor, par_stps h1, par_stps h1, par_stps h1, show par 1 = 1 by decide, show par 0 = 0 by decide] at h3
    omega
end Go.Proofs.YtbflofkcfhihcaaDoor

namespace Go.Proofs.YtbflofkcfhihcaaDoor
set_option maxRecDepth 100000
open Go

/-- Of bytes of 64 or 128: the tag, the length, the noughts, the sum, each by itself. -/
def padOf (l : List Nat) : List Nat := (l.drop (17 + bodyN l)).take (l.length - 21 - bodyN l)
def sumOf (l : List Nat) : List Nat := l.drop (l.length - 4)
theorem room_le_of {l : List Nat} (hs : l.length = 64 ∨ l.length = 128) (h : bodyN l ≤ roomN ((l.length / 64 : Nat) : Int)) : bodyN l + 21 ≤ l.length ∧ l.length / 64 * 64 = l.length := by
  rcases hs with h64 | h64
  · rw [h64] at h ⊢
    rw [show roomN ((64 / 64 : Nat) : Int) = 43 from rfl] at h
    omega
  · rw [h64] at h ⊢
    rw [show roomN ((128 / 64 : Nat) : Int) = 88 from rfl] at h
    omega
theorem take_end {l : List Nat} {n : Nat} (h : n + 21 ≤ l.length) : l.take (l.length - 4) = l.take 2 ++ (l.drop 2).take 15 ++ (l.drop 17).take n ++ (l.drop (17 + n)).take (l.length - 21 - n) := by
  have e1 : l.length - 4 = 2 + (15 + (n + (l.length - 21 - n))) := by omega
  rw [e1, List.take_add, List.take_add, List.take_add, List.drop_drop, List.drop_drop, ← List.append_assoc, ← List.append_assoc]
theorem good_of_parts {l : List Nat} (hl : ∀ b ∈ l, b < 256) (hs : l.length = 64 ∨ l.length = 128) (hp : PV (tagOf l) = true) (hn : bodyN l ≤ roomN ((l.length / 64 : Nat) : Int)) (hz : zeroB (padOf l) = true) (hc : sumOf l = digs 4 (crcS (l.take (l.length - 4)))) : goodB l = true := by
  obtain ⟨hroom, hdiv⟩ := room_le_of hs hn
  have hbl : (bodyOf l).length = bodyN l := by unfold bodyOf; rw [List.length_take, List.length_drop]; omega
  have h2 : digs 2 (bodyOf l).length = l.take 2 := by
    rw [hbl]
    have e := digs_num (l.take 2) (fun b hb => hl b (List.mem_of_mem_take hb))
    rw [List.length_take, Nat.min_eq_left (by omega)] at e
    exact e
  have hpad : List.replicate (64 * (l.length / 64) - 21 - (bodyOf l).length) 0 = (l.drop (17 + bodyN l)).take (l.length - 21 - bodyN l) := by
    rw [hbl, Nat.mul_comm 64, hdiv]
    symm
    refine List.eq_replicate_iff.2 ⟨by rw [List.length_take, List.length_drop]; omega, fun x hx => ?_⟩
    have := List.all_eq_true.1 hz x hx
    simpa using this
  have hh : frameH (bodyOf l) (tagOf l) (l.length / 64) = l.take (l.length - 4) := by
    rw [take_end hroom]
    unfold frameH
    rw [h2, hpad]
    rfl
  have hf : frameL (bodyOf l) (tagOf l) (l.length / 64) = l := by
    unfold frameL
    rw [hh, ← hc]
    exact List.take_append_drop _ _
  unfold goodB szB
  rw [hp, hf]
  simp only [hn, decide_true, Bool.and_true]
  rcases hs with h | h <;> simp [h]
theorem parts_of_good {l : List Nat} (h : goodB l = true) : zeroB (padOf l) = true ∧ sumOf l = digs 4 (crcS (l.take (l.length - 4))) := by
  obtain ⟨hs, hp, hn, hf⟩ := good_parts h
  obtain ⟨hroom, hdiv⟩ := room_le_of hs hn
  have hbl : (bodyOf l).length = bodyN l := by unfold bodyOf; rw [List.length_take, List.length_drop]; omega
  have hol : (tagOf l).length = 15 := by unfold tagOf; rw [List.length_take, List.length_drop]; omega
  have hS : 1 ≤ l.length / 64 := by omega
  have hHl : (frameH (bodyOf l) (tagOf l) (l.length / 64)).length = l.length - 4 := by
    rw [frameH_len hol (by omega) hS]; omega
  have ht : l.take (l.length - 4) = frameH (bodyOf l) (tagOf l) (l.length / 64) := by
    have e : l.take (l.length - 4) = (frameL (bodyOf l) (tagOf l) (l.length / 64)).take (l.length - 4) := congrArg (List.take (l.length - 4)) hf
    rw [e, frameL, List.take_append_of_le_length (by omega), List.take_of_length_le (by omega)]
  have hd : l.drop (l.length - 4) = digs 4 (crcS (frameH (bodyOf l) (tagOf l) (l.length / 64))) := by
    have e : l.drop (l.length - 4) = (frameL (bodyOf l) (tagOf l) (l.length / 64)).drop (l.length - 4) := congrArg (List.drop (l.length - 4)) hf
    rw [e, frameL, List.drop_left' hHl]
  refine ⟨?_, ?_⟩
  · have hx := take_end hroom
    rw [ht] at hx
    unfold frameH at hx
    have hlen2 : (digs 2 (bodyOf l).length ++ tagOf l ++ bodyOf l).length = (l.take 2 ++ (l.drop 2).take 15 ++ (l.drop 17).take (bodyN l)).length := by
      simp only [List.length_append, digs_length, hol, hbl, List.length_take, List.length_drop]
      omega
    have hpe := (List.append_inj hx hlen2).2
    refine List.all_eq_true.2 fun x hx => ?_
    have : x ∈ List.replicate (64 * (l.length / 64) - 21 - (bodyOf l).length) 0 := by rw [hpe]; exact hx
    have := (List.mem_replicate.1 this).2
    simp [this]
  · unfold sumOf
    rw [hd, ht]
/-- The sum as a number. -/
theorem sum_num {l : List Nat} (hl : ∀ b ∈ l, b < 256) (h4 : 4 ≤ l.length) (s : Nat) (hs : s < 4294967296) : sumOf l = digs 4 s ↔ num (sumOf l) = s := by
  have hlen : (sumOf l).length = 4 := by unfold sumOf; rw [List.length_drop]; omega
  constructor
  · intro h
    rw [h, num_digs 4 s (by simpa using hs)]
  · intro h
    have e := digs_num (sumOf l) (fun b hb => hl b (List.mem_of_mem_drop hb))
    rw [hlen, h] at e
    exact e.symm

/-- Up to three bits that are turned about: good just if nothing is changed. -/
theorem spoilt {l ps : List Nat} (hg : goodB l = true) (hl : ∀ x ∈ l, x < 256) (hps : ps.length ≤ 3) (hp : ∀ p ∈ ps, p < 8 * l.length) : goodB (flips l ps) = decide (l = flips l ps) := by
  by_cases h : l = flips l ps
  · rw [decide_eq_true h, ← h]
    exact hg
  · rw [decide_eq_false h]
    by_cases hg2 : goodB (flips l ps) = true
    · obtain ⟨hs, _⟩ := good_parts hg
      exact absurd (few_ne hl (by omega) hps hp (good_same hg hg2 hl (flips_lt ps hl))) h
    · simpa using hg2
/-- Some bits within 32: never good. -/
theorem near_bad {l : List Nat} {p w : Nat} (hg : goodB l = true) (hl : ∀ x ∈ l, x < 256) (hp : p + 32 ≤ 8 * l.length) (hw : w < 4294967296) (h0 : w ≠ 0) : goodB (flipN l p w 32) = false := by
  by_cases hg2 : goodB (flipN l p w 32) = true
  · exact absurd (good_same hg hg2 hl (flipN_lt p w 32 hl)) (near_ne hl hp hw h0)
  · simpa using hg2
/-- Bytes of another length are never good. -/
theorem good_size {l : List Nat} (h : l.length ≠ 64) (h' : l.length ≠ 128) : goodB l = false := by
  unfold goodB szB
  simp [h, h']
end Go.Proofs.YtbflofkcfhihcaaDoor
