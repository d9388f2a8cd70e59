/-
  The contract of the program's Print.
  The contract of the document's own Places.
  The contract of the document's own May.
  Rows of bytes that the call itself has made: kept over calls that write nothing that was there.
  The contract of the document's own Print.
  The contracts of Print, the program's and the document's, in one form for valid tags and others.
  The contracts of the program's checksum: half a byte by the table, bytes.
  The contract of the program's Parse.
  The contract of the frame's Seal.
  A package-level variable that reads as an array of structs of integers: its cells, one by one; no program.
  A struct of integers that came in by value, opened: its fields' numbers; no program.
  What a row's listing of the four tables gives the walks (without the list itself).
  The contracts of Text, the program's and the document's: a text's length and its bytes, or which error.
  The contracts of Read, the program's and the document's: the text that stands at a place of bytes, or which error.
  Plain facts on entries, without any program: which are valid; their bytes; what is read at a place of bytes.
  Plain facts on bodies (a ballot, and an entry behind it), without any program.
  Plain facts on the bodies of records, without any program.
-/
import Derived.Test.YtmacebglfniegaaGreatDoorQ01
import Derived.Test.YtmacebglfniegaaGreatDoorQ03
import Derived.Test.YtmacebglfniegaaGreatDoorQ06
import Derived.Test.YtmacebglfniegaaGreatDoorQ07
import Derived.Test.YtmacebglfniegaaGreatDoorProg
import Derived.WalkKit
import Derived.WalkSpells
import Derived.WalkLawsBesides
import Derived.BigQuiet
import Derived.Lib.Hide
import Derived.Outline
import Derived.Deep.QuietTactic
import Derived.Laws.OwnMore
import Derived.Laws.BitsAllLaws
import Derived.OwnWalk
import Derived.LaidMore
import Derived.Lib.LaidTab
import Derived.Stop.LaidErr
import Derived.Deep.Fields
import Derived.OpenShut
import Derived.ProofKit
import Derived.Test.YtmacebglfniegaaGreatDoorRows
import Derived.Stop.Joined
import Derived.Laws.IdiomStrings
import Derived.Laws.BytesString
namespace Go.Proofs.YtmacebglfniegaaGreatDoor
set_option maxRecDepth 100000
open Go Go.RowKit

/-- What the table of widths holds; what all three tables hold. -/
def LaidW (w : World) : Prop := ∀ k : Nat, k < 5 → w.cell? ⟨2, k, none⟩ = some (.int .i64 (wth k))
theorem LaidW.ext {a b : World} (h : LaidW a) (k : Ext a b) : LaidW b := fun i hi => Ext.cell k (h i hi)
structure LaidA (w : World) : Prop where
  o : Laid w
  t : LaidT w
  w : LaidW w
theorem LaidA.ext {a b : World} (h : LaidA a) (k : Ext a b) : LaidA b := ⟨h.o.ext k, h.t.ext k, h.w.ext k⟩

end Go.Proofs.YtmacebglfniegaaGreatDoor

namespace Go.Proofs.YtmacebglfniegaaGreatDoor
set_option maxRecDepth 100000
open Go Go.RowKit

end Go.Proofs.YtmacebglfniegaaGreatDoor

namespace Go.Proofs.YtmacebglfniegaaGreatDoor
set_option maxRecDepth 100000
open Go Go.RowKit

end Go.Proofs.YtmacebglfniegaaGreatDoor

namespace Go.Proofs.YtmacebglfniegaaGreatDoor
set_option maxRecDepth 100000
open Go Go.RowKit

theorem own_ext {w w' : World} {base : Nat} {e : TypeId} {size : Nat} {v : Value} {n : Nat} {xs : List Value} (h : w.ownsRow base e size v n xs) (k : Ext w w') : w'.ownsRow base e size v n xs := by
  refine ⟨h.1, ?_⟩
  rcases h.2 with h0 | ⟨g, cap, cur, hv, hb, hg, h1⟩
  · exact .inl h0
  · exact .inr ⟨g, cap, cur, hv, hb, (k.block g (Array.getElem?_eq_some_iff.1 hg).1).trans hg, h1⟩
end Go.Proofs.YtmacebglfniegaaGreatDoor

namespace Go.Proofs.YtmacebglfniegaaGreatDoor
set_option maxRecDepth 100000
open Go Go.RowKit

end Go.Proofs.YtmacebglfniegaaGreatDoor

namespace Go.Proofs.YtmacebglfniegaaGreatDoor
set_option maxRecDepth 100000
open Go Go.RowKit

end Go.Proofs.YtmacebglfniegaaGreatDoor

namespace Go.Proofs.YtmacebglfniegaaGreatDoor
set_option maxRecDepth 100000
open Go Go.RowKit

/-- What the table of halves holds. -/
def LaidH (w : World) : Prop := ∀ i, i < 16 → w.cell? ⟨4, i, none⟩ = some (.int .u32 ((stps 4 i : Nat) : Int))

end Go.Proofs.YtmacebglfniegaaGreatDoor

namespace Go.Proofs.YtmacebglfniegaaGreatDoor
set_option maxRecDepth 100000
open Go Go.RowKit

/-- The tag's cells when k of its numbers are read. -/
def pc (l : List Nat) (k j : Nat) : Value := .int .i64 ((if j < k then pfld l j else 0 : Nat) : Int)
def prow (l : List Nat) (k : Nat) : Array Value := #[pc l k 0, pc l k 1, pc l k 2, pc l k 3, pc l k 4]
theorem prow_step (l : List Nat) {k : Nat} (h : k < 5) : (prow l k).setIfInBounds k (.int .i64 (pfld l k : Nat)) = prow l (k + 1) := by
  have hj' : k = 0 ∨ k = 1 ∨ k = 2 ∨ k = 3 ∨ k = 4 := by omega
  rcases hj' with rfl | rfl | rfl | rfl | rfl <;> simp [prow, pc]
/-- What holds at the loop's head: the answer's block g is blank, the tag's block g + 1 holds k numbers. -/
structure PS (w : World) (l : List Nat) (k : Nat) (w' : World) : Prop where
  blank : w'.heap[w.heap.size]? = some (.cells #[.int .i64 0, .int .i64 0, .int .i64 0, .int .i64 0, .int .i64 0] 44 (0, 0))
  row : w'.heap[w.heap.size + 1]? = some (.cells (prow l k) 44 (0, 0))
  ext : Ext w w'
theorem PS.start (w : World) (l : List Nat) : PS w l 0 ((w.alloc (.cells #[.int .i64 0, .int .i64 0, .int .i64 0, .int .i64 0, .int .i64 0] 44)).alloc (.cells #[.int .i64 0, .int .i64 0, .int .i64 0, .int .i64 0, .int .i64 0] 44)) := by
  refine ⟨?_, heap_alloc2_new w _ _, ((Ext.refl w).alloc _).alloc _⟩
  rw [heap_alloc_old _ _ (by simp)]
  exact heap_alloc_new w _
theorem PS.step {w w' : World} {l : List Nat} {k : Nat} (h : PS w l k w') (hk : k < 5) : PS w l (k + 1) (w'.setCell ⟨w.heap.size + 1, k, none⟩ (.int .i64 (pfld l k : Nat))) := by
  have hs := setCell_eq_setRow w' (w.heap.size + 1) k (prow l k) 44 (0, 0) (.int .i64 (pfld l k : Nat)) h.row
  rw [hs, prow_step l hk]
  exact ⟨(setRow_other w' _ _ _ (by omega)).trans h.blank, setRow_heap w' _ _ _ _ _ h.row, below_setRow h.ext (by omega) _⟩
theorem PS.cell {w w' : World} {l : List Nat} {k : Nat} (h : PS w l k w') (j : Nat) : w'.cell? ⟨w.heap.size + 1, j, none⟩ = (prow l k)[j]? := cell_of_row w' _ j _ _ _ h.row
theorem PS.free {w w' : World} {l : List Nat} {k : Nat} (h : PS w l k w') (j : Nat) : w'.frozen? ⟨w.heap.size + 1, j, none⟩ = false := frozen_of_row w' _ j _ _ h.row

end Go.Proofs.YtmacebglfniegaaGreatDoor

namespace Go.Proofs.YtmacebglfniegaaGreatDoor
set_option maxRecDepth 100000
open Go Go.RowKit

/-- What all four tables hold. -/
structure LaidF (w : World) : Prop where
  a : LaidA w
  h : LaidH w
theorem LaidF.ext {a b : World} (h : LaidF a) (k : Ext a b) : LaidF b := ⟨h.a.ext k, fun i hi => Ext.cell k (h.h i hi)⟩

/-- What Seal answers: which error (0: none), the bytes. -/
def sealE (a b c d e : Int) (n : Nat) (s : Int) : Int := if roomN s = 0 ∨ mayB a b c d e = false then 2 else if roomN s < n then 3 else 0
def sealL (a b c d e : Int) (body : List Nat) (s : Int) : List Nat := if sealE a b c d e body.length s = 0 then frameL body (pl a b c d e) s.toNat else []
theorem sealE_arg {a b c d e s : Int} {n : Nat} (h : roomN s = 0 ∨ mayB a b c d e = false) : sealE a b c d e n s = 2 := by unfold sealE; rw [if_pos h]
theorem sealE_long {a b c d e s : Int} {n : Nat} (h : roomN s ≠ 0) (hm : mayB a b c d e = true) (hn : roomN s < n) : sealE a b c d e n s = 3 := by unfold sealE; rw [if_neg (by rw [hm]; simpa using h), if_pos hn]
theorem sealE_yes {a b c d e s : Int} {n : Nat} (h : roomN s ≠ 0) (hm : mayB a b c d e = true) (hn : n ≤ roomN s) : sealE a b c d e n s = 0 := by unfold sealE; rw [if_neg (by rw [hm]; simpa using h), if_neg (by omega)]
theorem sealL_no {a b c d e s : Int} {body : List Nat} (h : sealE a b c d e body.length s ≠ 0) : sealL a b c d e body s = [] := by unfold sealL; rw [if_neg h]
theorem sealL_yes {a b c d e s : Int} {body : List Nat} (h : sealE a b c d e body.length s = 0) : sealL a b c d e body s = frameL body (pl a b c d e) s.toNat := by unfold sealL; rw [if_pos h]
end Go.Proofs.YtmacebglfniegaaGreatDoor

namespace Go.Proofs.YtmacebglfniegaaGreatDoor
set_option maxRecDepth 100000
open Go Go.RowKit Go.ChangeShapes Go.WideShapes Go.Deep

/-- The datum: rows of integers. -/
def tab2 {H : Type} (k : IntKind) (rows : List (List Int)) : DataW H := .agg (rows.map fun r => .agg (r.map fun z => .lit (.int k z)))

theorem cells_of_tab2 {H : Type} {enc : TypeId × Value → H} {P : Program} {w : World} {base : Nat} {sp : Nat → Bool} {held : Bool} {fuel : Nat} {t e : TypeId} {n : Nat} {k : IntKind} {fs : Array Field} {cs : List Value} {rows : List (List Int)} {p : List MemPlace}
    (ht : P.underlying t = some (.array n e)) (he : P.underlying e = some (.struct fs)) (hone : oneCellFields P fs = true) (hC : P.cellsOf e = fs.size) (hk : ∀ (j : Nat) (f : Field), fs[j]? = some f → P.underlying f.type = some (.int k))
    (h : DataW.trod enc P w base sp held fuel t cs = some (tab2 k rows, p)) (i : Nat) (r : List Int) (hr : rows[i]? = some r) (j : Nat) (z : Int) (hz : r[j]? = some z) : cs[i * fs.size + j]? = some (.int k z) := by
  obtain ⟨xs, m, _, hx, _, hxl, hxi⟩ := DataW.trod_array ht h
  have hx1 : xs.map (·.1) = rows.map fun r => (.agg (r.map fun z => .lit (.int k z)) : DataW H) := by
    have := congrArg Prod.fst hx
    simp only [tab2, DataW.agg.injEq] at this
    exact this.symm
  have hin : i < n := by
    have h1 : i < rows.length := (List.getElem?_eq_some_iff.1 hr).1
    have h2 := congrArg List.length hx1
    simp at h2
    omega
  have hrow := hxi i hin
  obtain ⟨x, hxe⟩ : ∃ x, xs[i]? = some x := ⟨_, List.getElem?_eq_getElem (by omega)⟩
  have hx2 : x.1 = (.agg (r.map fun z => .lit (.int k z)) : DataW H) := by
    have := congrArg (·[i]?) hx1
    simpa [hxe, hr] using this
  rw [hxe, hC] at hrow
  obtain ⟨ys, m2, _, hy, _, hyl, hyf⟩ := DataW.trod_struct he hrow
  have hy1 : ys.map (·.1) = r.map fun z => (.lit (.int k z) : DataW H) := by
    have := congrArg Prod.fst hy
    rw [hx2] at this
    simp only [DataW.agg.injEq] at this
    exact this.symm
  have hjn : j < fs.size := by
    have h1 : j < r.length := (List.getElem?_eq_some_iff.1 hz).1
    have h2 := congrArg List.length hy1
    simp at h2
    omega
  have hf : fs[j]? = some fs[j] := Array.getElem?_eq_getElem hjn
  obtain ⟨ho, hc1⟩ := hone_of hone j fs[j] hf
  have hfj := hyf j fs[j] hf
  rw [ho, hc1] at hfj
  obtain ⟨y, hye⟩ : ∃ y, ys[j]? = some y := ⟨_, List.getElem?_eq_getElem (by omega)⟩
  rw [hye] at hfj
  obtain ⟨z', hcs, hyz, _⟩ := DataW.trod_int (hk j fs[j] hf) hfj
  have hz' : z' = z := by
    have := congrArg (·[j]?) hy1
    simpa [hye, hyz, hz] using this
  subst hz'
  have := congrArg (·[0]?) hcs
  simp [List.getElem?_drop, hjn] at this
  exact this

/-- The variable at the head of a row's list, read through. -/
theorem tab2_of_head {P : Program} {W : World} {name : String} {k : IntKind} {rows : List (List Int)} {rest : List (String × DataW Unit)} {g : Nat} {t e : TypeId} {n : Nat} {fs : Array Field}
    (hg : P.globalNamed name = some g) (hty : (P.globals[g]?).map (·.type) = some t) (ht : P.underlying t = some (.array n e)) (he : P.underlying e = some (.struct fs)) (hone : oneCellFields P fs = true) (hC : P.cellsOf e = fs.size) (hk : ∀ (j : Nat) (f : Field), fs[j]? = some f → P.underlying f.type = some (.int k))
    (h : laidMet P ((name, tab2 k rows) :: rest) W) (i : Nat) (r : List Int) (hr : rows[i]? = some r) (j : Nat) (z : Int) (hz : r[j]? = some z) : W.cell? ⟨g, i * fs.size + j, none⟩ = some (.int k z) := by
  obtain ⟨ps, ⟨g', t', cs, fuel, p, q, hg', ht', hvar, hd, _, _⟩, _⟩ := h
  obtain rfl := Option.some.inj (hg.symm.trans hg')
  obtain rfl := Option.some.inj (hty.symm.trans ht')
  have hc := cells_of_tab2 ht he hone hC hk hd i r hr j z hz
  exact (World.var?_cell hg hvar (i * fs.size + j)).trans (by simpa using hc)
end Go.Proofs.YtmacebglfniegaaGreatDoor

namespace Go.Proofs.YtmacebglfniegaaGreatDoor
set_option maxRecDepth 100000
open Go Go.RowKit Go.ChangeShapes Go.WideShapes Go.Deep

theorem open_agg_ints {H : Type} {enc : TypeId × Value → H} {P : Program} {w : World} {base : Nat} {sp : Nat → Bool} {held : Bool} {r : Reach} {b0 : Nat} {t : TypeId} {fs : Array Field} {v : Value} {d : DataW H} {p : List MemPlace}
    (hs : P.underlying t = some (.struct fs)) (hone : oneCellFields P fs = true) (hC : P.cellsOf t = fs.size) (hk : ∀ (j : Nat) (f : Field), fs[j]? = some f → P.underlying f.type = some (.int .i64))
    (hv : Value.okWide P w r b0 t v) (h : DataW.Trod enc P w base sp held t v d p) : ∃ xs : List Int, xs.length = fs.size ∧ v = .agg (xs.map (Value.int .i64)).toArray ∧ ∀ x ∈ xs, (Lit.int .i64 x).wf = true := by
  obtain ⟨cs, rfl, hsz⟩ := okWide_struct hs hv
  obtain ⟨fuel, hf⟩ := h
  obtain ⟨ys, n, _, _, hcl, hyl, hyf⟩ := DataW.trod_struct hs hf
  have hcl' : cs.toList.length = fs.size := by rw [Array.length_toList]; omega
  have each : ∀ (j : Nat) (c : Value), cs.toList[j]? = some c → ∃ x, c = .int .i64 x ∧ (Lit.int .i64 x).wf = true := by
    intro j c hc
    have hj : j < fs.size := by have := (List.getElem?_eq_some_iff.1 hc).1; omega
    have hf : fs[j]? = some fs[j] := Array.getElem?_eq_getElem hj
    obtain ⟨ho, hc1⟩ := hone_of hone j fs[j] hf
    have hfj := hyf j fs[j] hf
    rw [ho, hc1, List.getElem?_eq_getElem (by omega)] at hfj
    obtain ⟨x, hcs, _, hw⟩ := DataW.trod_int (hk j fs[j] hf) hfj
    refine ⟨x, ?_, hw⟩
    have h0 := congrArg (·[0]?) hcs
    have e : (Value.cells (.agg cs)).toList = cs.toList := rfl
    simp only [e] at h0
    rw [List.getElem?_take_of_lt (by omega), List.getElem?_drop, Nat.add_zero, hc] at h0
    simpa using h0
  have all : ∀ l : List Value, (∀ c ∈ l, ∃ x, c = .int .i64 x ∧ (Lit.int .i64 x).wf = true) → ∃ xs : List Int, l = xs.map (Value.int .i64) ∧ ∀ x ∈ xs, (Lit.int .i64 x).wf = true := by
    intro l
    induction l with
    | nil => intro _; exact ⟨[], rfl, by simp⟩
    | cons c l ih =>
      intro hl
      obtain ⟨x, rfl, hx⟩ := hl c (by simp)
      obtain ⟨xs, rfl, hxs⟩ := ih (fun c hc => hl c (by simp [hc]))
      exact ⟨x :: xs, rfl, by intro y hy; simp only [List.mem_cons] at hy; rcases hy with rfl | hy; exact hx; exact hxs y hy⟩
  obtain ⟨xs, hxs, hw⟩ := all cs.toList (fun c hc => by
    obtain ⟨j, hj, e⟩ := List.mem_iff_getElem.1 hc
    exact each j c (by rw [← e]; exact List.getElem?_eq_getElem hj))
  refine ⟨xs, ?_, ?_, hw⟩
  · rw [← hcl', hxs, List.length_map]
  · rw [← hxs]
/-- Five of them. -/
theorem open_agg5i {H : Type} {enc : TypeId × Value → H} {P : Program} {w : World} {base : Nat} {sp : Nat → Bool} {held : Bool} {r : Reach} {b0 : Nat} {t : TypeId} {fs : Array Field} {v : Value} {d : DataW H} {p : List MemPlace}
    (hs : P.underlying t = some (.struct fs)) (hone : oneCellFields P fs = true) (hC : P.cellsOf t = fs.size) (hk : ∀ (j : Nat) (f : Field), fs[j]? = some f → P.underlying f.type = some (.int .i64)) (h5 : fs.size = 5)
    (hv : Value.okWide P w r b0 t v) (h : DataW.Trod enc P w base sp held t v d p) : ∃ a b c d' e : Int, v = .agg #[.int .i64 a, .int .i64 b, .int .i64 c, .int .i64 d', .int .i64 e] := by
  obtain ⟨xs, hl, rfl, _⟩ := open_agg_ints hs hone hC hk hv h
  rw [h5] at hl
  match xs, hl with
  | [a, b, c, d', e], _ => exact ⟨a, b, c, d', e, rfl⟩
end Go.Proofs.YtmacebglfniegaaGreatDoor

namespace Go.Proofs.YtmacebglfniegaaGreatDoor
set_option maxRecDepth 100000
open Go Go.ChangeShapes Go.WideShapes Go.ChangeAt Go.WideMaps Go.WideElems Go.RowKit Go.Deep

theorem tag_fields (fs : Array Field) (hs : Tryz.prog.underlying 44 = some (.struct fs)) (j : Nat) (f : Field) (hf : fs[j]? = some f) : Tryz.prog.underlying f.type = some (.int .i64) := by
  rw [Tryz.underlying44] at hs
  injection hs with hs
  injection hs with hs
  subst hs
  match j, hf with
  | 0, hf => injection hf with hf; subst hf; exact Tryz.underlying3
  | 1, hf => injection hf with hf; subst hf; exact Tryz.underlying3
  | 2, hf => injection hf with hf; subst hf; exact Tryz.underlying3
  | 3, hf => injection hf with hf; subst hf; exact Tryz.underlying3
  | 4, hf => injection hf with hf; subst hf; exact Tryz.underlying3
  | (j + 5), hf => simp at hf
/-- A tag that came in, opened (the name is the frame's: open_t and the type's number). -/
theorem open_t44 {H : Type} {enc : TypeId × Value → H} {w : World} {base : Nat} {sp : Nat → Bool} {held : Bool} {r : Reach} {b0 : Nat} {v : Value} {d : DataW H} {p : List MemPlace}
    (hv : Value.okWide Tryz.prog w r b0 44 v) (h : DataW.Trod enc Tryz.prog w base sp held 44 v d p) : ∃ a b c d' e : Int, v = .agg #[.int .i64 a, .int .i64 b, .int .i64 c, .int .i64 d', .int .i64 e] :=
  open_agg5i Tryz.underlying44 (by kernel_rfl) (by kernel_rfl) (tag_fields _ Tryz.underlying44) rfl hv h

theorem laid_o {W : World} {rest : List (String × DataW Unit)} (h : laidMet Tryz.prog (("sexton/octet.bounds", Rows.laid_sexton_octet_bounds) :: rest) W) : Laid W := by
  have hg : Tryz.prog.globalNamed "sexton/octet.bounds" = some 3 := by kernel_rfl
  have ht : (Tryz.prog.globals[3]?).map (·.type) = some 286 := by kernel_rfl
  have hv : W.var? Tryz.prog "sexton/octet.bounds" = some (([0, 256, 65536, 0, 4294967296, 0, 281474976710656] : List Int).map fun z => Value.int .i64 z).toArray :=
    Lib.tabIs_of_head hg ht Tryz.underlying286 Tryz.underlying3 (by kernel_rfl) (by kernel_rfl) h
  have hc := fun i => World.var?_cell hg hv i
  exact ⟨hc 0, hc 1, hc 2, hc 3, hc 4, hc 5, hc 6⟩

theorem laid_t {W : World} {rest : List (String × DataW Unit)} (h : laidMet Tryz.prog (("sexton/tag.regions", Rows.laid_sexton_tag_regions) :: rest) W) : LaidT W := by
  have hg : Tryz.prog.globalNamed "sexton/tag.regions" = some 1 := by kernel_rfl
  have ht : (Tryz.prog.globals[1]?).map (·.type) = some 208 := by kernel_rfl
  have hc := tab2_of_head (k := .i64) (rows := [[0, 0], [2, 1], [2, 1], [24, 1], [48, 2], [16, 2]]) hg ht Tryz.underlying208 Tryz.underlying207 (by kernel_rfl) (by kernel_rfl)
    (fun j f hf => by
      match j, hf with
      | 0, hf => injection hf with hf; subst hf; exact Tryz.underlying3
      | 1, hf => injection hf with hf; subst hf; exact Tryz.underlying3
      | (j + 2), hf => simp at hf) h
  have row : ∀ (i : Nat) (a b : Int), ([[0, 0], [2, 1], [2, 1], [24, 1], [48, 2], [16, 2]] : List (List Int))[i]? = some [a, b] → W.cell? ⟨1, i * 2, none⟩ = some (.int .i64 a) ∧ W.cell? ⟨1, i * 2 + 1, none⟩ = some (.int .i64 b) := fun i a b hi => ⟨hc i [a, b] hi 0 a rfl, hc i [a, b] hi 1 b rfl⟩
  intro r hr
  have hj' : r = 0 ∨ r = 1 ∨ r = 2 ∨ r = 3 ∨ r = 4 ∨ r = 5 := by omega
  rcases hj' with rfl | rfl | rfl | rfl | rfl | rfl
  · exact row 0 0 0 rfl
  · exact row 1 2 1 rfl
  · exact row 2 2 1 rfl
  · exact row 3 24 1 rfl
  · exact row 4 48 2 rfl
  · exact row 5 16 2 rfl

theorem laid_w {W : World} {rest : List (String × DataW Unit)} (h : laidMet Tryz.prog (("sexton/tag.widths", Rows.laid_sexton_tag_widths) :: rest) W) : LaidW W := by
  have hg : Tryz.prog.globalNamed "sexton/tag.widths" = some 2 := by kernel_rfl
  have ht : (Tryz.prog.globals[2]?).map (·.type) = some 264 := by kernel_rfl
  have hv : W.var? Tryz.prog "sexton/tag.widths" = some (([1, 1, 1, 6, 6] : List Int).map fun z => Value.int .i64 z).toArray :=
    Lib.tabIs_of_head hg ht Tryz.underlying264 Tryz.underlying3 (by kernel_rfl) (by kernel_rfl) h
  have hc := fun i => World.var?_cell hg hv i
  intro k hk
  have hj' : k = 0 ∨ k = 1 ∨ k = 2 ∨ k = 3 ∨ k = 4 := by omega
  rcases hj' with rfl | rfl | rfl | rfl | rfl
  · exact hc 0
  · exact hc 1
  · exact hc 2
  · exact hc 3
  · exact hc 4

theorem laid_h {W : World} {rest : List (String × DataW Unit)} (h : laidMet Tryz.prog (("sexton/crc.halves", Rows.laid_sexton_crc_halves) :: rest) W) : LaidH W := by
  have hg : Tryz.prog.globalNamed "sexton/crc.halves" = some 4 := by kernel_rfl
  have ht : (Tryz.prog.globals[4]?).map (·.type) = some 295 := by kernel_rfl
  have hv : W.var? Tryz.prog "sexton/crc.halves" = some (([0, 274646895, 549293790, 820201905, 1098587580, 1361435347, 1640403810, 1905808397, 2197175160, 2460548119, 2722870694, 2987750089, 3280807620, 3553878443, 3811616794, 4084100981] : List Int).map fun z => Value.int .u32 z).toArray :=
    Lib.tabIs_of_head hg ht Tryz.underlying295 Tryz.underlying191 (by kernel_rfl) (by kernel_rfl) h
  have hc := fun i => World.var?_cell hg hv i
  intro i hi
  have e : ∀ j, j < 16 → ((([0, 274646895, 549293790, 820201905, 1098587580, 1361435347, 1640403810, 1905808397, 2197175160, 2460548119, 2722870694, 2987750089, 3280807620, 3553878443, 3811616794, 4084100981] : List Int).map fun z => Value.int .u32 z).toArray)[j]? = some (.int .u32 ((stps 4 j : Nat) : Int)) := by
    intro j hj
    have hj' : j = 0 ∨ j = 1 ∨ j = 2 ∨ j = 3 ∨ j = 4 ∨ j = 5 ∨ j = 6 ∨ j = 7 ∨ j = 8 ∨ j = 9 ∨ j = 10 ∨ j = 11 ∨ j = 12 ∨ j = 13 ∨ j = 14 ∨ j = 15 := by omega
    rcases hj' with rfl | rfl | rfl | rfl | rfl | rfl | rfl | rfl | rfl | rfl | rfl | rfl | rfl | rfl | rfl | rfl <;> rfl
  exact (hc i).trans (e i hi)

end Go.Proofs.YtmacebglfniegaaGreatDoor

namespace Go.Proofs.YtmacebglfniegaaGreatDoor
set_option maxRecDepth 100000
open Go Go.RowKit

/-- A text's bytes as numbers. -/
def bl (s : ByteArray) : List Nat := s.data.toList.map UInt8.toNat
theorem bl_length (s : ByteArray) : (bl s).length = s.size := by
  unfold bl
  rw [List.length_map]
  rfl
theorem bl_lt (s : ByteArray) : ∀ b ∈ bl s, b < 256 := by
  intro b hb
  simp only [bl, List.mem_map] at hb
  obtain ⟨u, _, rfl⟩ := hb
  exact u.toNat_lt

theorem bl_get (s : ByteArray) (j x : Nat) (h : (bl s)[j]? = some x) (cap : Nat) : (bytesRow s cap)[j]? = some (.int .u8 ((x : Nat) : Int)) := by
  unfold bl at h
  rw [List.getElem?_map] at h
  obtain ⟨u, hu, rfl⟩ := Option.map_eq_some_iff.1 h
  have hu' : s.data[j]? = some u := by rw [← Array.getElem?_toList]; exact hu
  have hj : j < s.data.size := (Array.getElem?_eq_some_iff.1 hu').1
  unfold bytesRow
  rw [Array.getElem?_append_left (by rw [Array.size_map]; exact hj), Array.getElem?_map, hu']
  rfl

theorem own_base {w : World} {b b' e : Nat} {v : Value} {n : Nat} {xs : List Value} (h : w.ownsRow b e 1 v n xs) (hb : b' ≤ b) : w.ownsRow b' e 1 v n xs := by
  refine ⟨h.1, ?_⟩
  rcases h.2 with h2 | ⟨g, cap, cur, h2, h3, h4⟩
  · exact .inl h2
  · exact .inr ⟨g, cap, cur, h2, Nat.le_trans hb h3, h4⟩

/-- The world in which Text calls Join. -/
def textW (s : ByteArray) (w : World) (cap : Nat) (fr : Nat × Nat) : World :=
  (((w.alloc (.cells #[.int .u8 (s.size : Int)] 5)).alloc (.cells (bytesRow s cap) 5 fr)).alloc
    (.cells #[.slice (some ⟨w.heap.size, 0, none⟩) 1 1, .slice (some ⟨w.heap.size + 1, 0, none⟩) s.size cap] 45)).drew
def textPs (s : ByteArray) (w : World) (cap : Nat) : List (Value × List Nat) :=
  [(.slice (some ⟨w.heap.size, 0, none⟩) 1 1, [s.size]), (.slice (some ⟨w.heap.size + 1, 0, none⟩) s.size cap, bl s)]
theorem textW_below (s : ByteArray) (w : World) (cap : Nat) (fr : Nat × Nat) : Below w.heap.size w (textW s w cap fr) :=
  ((((Below.refl _ _).alloc (Nat.le_refl _) _).alloc (by simp) _).alloc (by simp; omega) _).drew
theorem textW_size (s : ByteArray) (w : World) (cap : Nat) (fr : Nat × Nat) : (textW s w cap fr).heap.size = w.heap.size + 3 := by
  simp [textW]
theorem text_parts (s : ByteArray) (w : World) (cap : Nat) (fr : Nat × Nat) (hs : s.size ≤ 255) (h1 : s.size ≤ cap) (h2 : cap ≤ maxLen) :
    Parts (textW s w cap fr) (textW s w cap fr).heap.size (some ⟨w.heap.size + 1 + 1, 0, none⟩) 2 (textPs s w cap) := by
  unfold maxLen at h2
  rw [textW_size]
  refine ⟨rfl, fun _ => ⟨_, 0, rfl, by omega, fun j p hp => ?_⟩, fun p hp => ?_⟩
  · match j, hp with
    | 0, hp => simp [textPs] at hp; subst hp; simp [textW, go_sem]
    | 1, hp => simp [textPs] at hp; subst hp; simp [textW, go_sem]
    | j + 2, hp => simp [textPs] at hp
  · simp only [textPs, List.mem_cons, List.not_mem_nil, or_false] at hp
    rcases hp with rfl | rfl
    · refine ⟨_, _, _, rfl, rfl, Nat.le_refl _, by omega, ⟨by intro b hb; simp at hb; omega, fun _ => ⟨_, 0, rfl, by omega, fun j x hx => ?_⟩⟩, fun h => by cases h⟩
      match j, hx with
      | 0, hx => simp at hx; subst hx; simp [textW, go_sem]
      | j + 1, hx => simp at hx
    · refine ⟨_, _, _, rfl, bl_length s, h1, h2, ⟨bl_lt s, fun _ => ⟨_, 0, rfl, by omega, fun j x hx => ?_⟩⟩, fun h => by cases h⟩
      have hb := bl_get s j x hx cap
      have hh : ((w.alloc (.cells #[.int .u8 (s.size : Int)] 5)).alloc (.cells (bytesRow s cap) 5 fr)).heap[w.heap.size + 1]? = some (.cells (bytesRow s cap) 5 fr) := by
        have := heap_alloc_new (w.alloc (.cells #[.int .u8 (s.size : Int)] 5)) (.cells (bytesRow s cap) 5 fr)
        simpa using this
      have hc := cell_of_row _ _ j _ _ _ hh
      rw [hb] at hc
      simp [textW, go_sem, hc]
theorem textPs_cat (s : ByteArray) (w : World) (cap : Nat) : cat (textPs s w cap) = s.size :: bl s := by simp [cat, textPs]

set_option maxHeartbeats 800000 in
theorem otext_yes (s : ByteArray) (w : World) (hs : s.size ≤ 255) :
    Calls Tryz.prog 175 #[.string s] w fun e w' => ∃ A' c', e = .returned (.tuple #[.slice A' (s.size + 1) c', .int .i64 0]) ∧ w'.ownsRow w.heap.size 5 1 (.slice A' (s.size + 1) c') (s.size + 1) (vb (s.size :: bl s)) ∧ Below w.heap.size w w' := by
  have hconv := fun (W : World) => run_bytes_of_string (P := Tryz.prog) W 9 45 5 s Tryz.underlying9 Tryz.underlying45 Tryz.underlying5
  go_enter Tryz.func175, Tryz.ntmps175
  go_wp2_with fail
  refine (join_any _ 2 2 (textPs s w _) (textW s w _ _) (by exact text_parts s w _ _ hs (grownCap_ge _ _ _ _) (grownCap_le_maxLen _ _ _ _ (by unfold maxLen; omega))) (by omega) (by rw [textPs_cat, List.length_cons, bl_length]; omega)).mono ?_
  rw [textPs_cat, List.length_cons, bl_length]
  rintro e w1 ⟨A', c', rfl, hown, hbel⟩
  rw [textW_size] at hown hbel
  have HO := Lib.hid hown
  have HB := Lib.hid hbel
  clear hown hbel hconv
  go_wp2_with fail
  go_ret2
  exact ⟨A', c', rfl, own_base HO.out (by omega), (textW_below s w _ _).trans (HB.out.mono (by omega))⟩

end Go.Proofs.YtmacebglfniegaaGreatDoor

namespace Go.Proofs.YtmacebglfniegaaGreatDoor
set_option maxRecDepth 100000
open Go Go.RowKit

/-- A text of bytes given as numbers. -/
def str (l : List Nat) : ByteArray := ⟨(l.map UInt8.ofNat).toArray⟩

/-- What Read answers: the text's bytes, the place behind it, and which error (0: none). -/
def readS (l : List Nat) (at_ : Int) : List Nat × Nat × Int :=
  if (getS l at_ 1).2.2 ≠ 0 then ([], 0, (getS l at_ 1).2.2)
  else if l.length - (getS l at_ 1).2.1 < (getS l at_ 1).1 then ([], 0, 10)
  else ((l.drop (getS l at_ 1).2.1).take (getS l at_ 1).1, (getS l at_ 1).2.1 + (getS l at_ 1).1, 0)

theorem getS_one {l : List Nat} {a b : Nat} (hb : l[a]? = some b) : getS l (a : Int) 1 = (b, a + 1, 0) := by
  have ha : a < l.length := (List.getElem?_eq_some_iff.1 hb).1
  rw [getS_yes rfl (by omega) (by omega) (by omega)]
  have e : (l.drop a).take 1 = [b] := by
    have h0 : (l.drop a)[0]? = some b := by rw [List.getElem?_drop]; exact hb
    rw [List.take_add_one, h0]
    simp
  simp [e, num]
end Go.Proofs.YtmacebglfniegaaGreatDoor

namespace Go.Proofs.YtmacebglfniegaaGreatDoor
set_option maxRecDepth 100000
open Go

theorem str_blE (s : ByteArray) : str (bl s) = s := by
  unfold str bl
  rw [List.map_map]
  have e : ((UInt8.ofNat ∘ UInt8.toNat) : UInt8 → UInt8) = id := by
    funext u
    simp
  rw [e, List.map_id]
/-- An entry. -/
structure Ent where
  k : Nat := 0
  cl : Int := 0
  sq : Int := 0
  ok : Nat := 0
  key : ByteArray := ByteArray.empty
  old : ByteArray := ByteArray.empty
  val : ByteArray := ByteArray.empty
instance : Inhabited Ent := ⟨{}⟩
/-- Which operations, which entries are valid. -/
def opOk (ok : Nat) (key old val : ByteArray) : Bool :=
  decide (1 ≤ key.size ∧ key.size ≤ 8 ∧ old.size ≤ 16 ∧ val.size ≤ 16 ∧ (((ok = 1 ∨ ok = 3) ∧ old.size = 0 ∧ val.size = 0) ∨ (ok = 2 ∧ old.size = 0) ∨ ok = 4))
theorem opOk_iff {ok : Nat} {key old val : ByteArray} : opOk ok key old val = true ↔ (1 ≤ key.size ∧ key.size ≤ 8 ∧ old.size ≤ 16 ∧ val.size ≤ 16 ∧ (((ok = 1 ∨ ok = 3) ∧ old.size = 0 ∧ val.size = 0) ∨ (ok = 2 ∧ old.size = 0) ∨ ok = 4)) := by unfold opOk; exact decide_eq_true_iff
def enOk (e : Ent) : Bool :=
  decide ((e.k = 1 ∧ e.cl = 0 ∧ e.sq = 0 ∧ e.ok = 0 ∧ e.key.size = 0 ∧ e.old.size = 0 ∧ e.val.size = 0) ∨ (e.k = 2 ∧ 0 ≤ e.cl ∧ e.cl ≤ 3 ∧ 1 ≤ e.sq ∧ e.sq ≤ 1099511627776 ∧ opOk e.ok e.key e.old e.val = true ∧ e.ok ≠ 1))
theorem enOk_iff {e : Ent} : enOk e = true ↔ ((e.k = 1 ∧ e.cl = 0 ∧ e.sq = 0 ∧ e.ok = 0 ∧ e.key.size = 0 ∧ e.old.size = 0 ∧ e.val.size = 0) ∨ (e.k = 2 ∧ 0 ≤ e.cl ∧ e.cl ≤ 3 ∧ 1 ≤ e.sq ∧ e.sq ≤ 1099511627776 ∧ opOk e.ok e.key e.old e.val = true ∧ e.ok ≠ 1)) := by unfold enOk; exact decide_eq_true_iff
theorem size_zero {s : ByteArray} (h : s.size = 0) : s = ByteArray.empty := by
  obtain ⟨⟨l⟩⟩ := s
  have h' : l.length = 0 := h
  rw [List.eq_nil_of_length_eq_zero h']
  rfl
/-- The bytes of a text, and of an entry. -/
def tx (s : ByteArray) : List Nat := s.size :: bl s
theorem tx_length (s : ByteArray) : (tx s).length = 1 + s.size := by unfold tx; rw [List.length_cons, bl_length]; omega
def enL (e : Ent) : List Nat := if e.k = 1 then [1] else [2, e.cl.toNat] ++ digs 6 e.sq.toNat ++ [e.ok] ++ tx e.key ++ tx e.old ++ tx e.val
theorem enL_len {e : Ent} (h : enOk e = true) : 1 ≤ (enL e).length ∧ (enL e).length ≤ 52 := by
  unfold enL
  split
  · simp
  · rcases enOk_iff.1 h with h | ⟨_, _, _, _, _, h, _⟩
    · omega
    · have := opOk_iff.1 h
      simp only [List.length_append, List.length_cons, List.length_nil, digs_length, tx_length]
      omega
theorem enL_lt {e : Ent} (h : enOk e = true) : ∀ x ∈ enL e, x < 256 := by
  unfold enL
  split
  · intro x hx; simp at hx; omega
  · rcases enOk_iff.1 h with h | ⟨_, _, h1, _, _, h, _⟩
    · omega
    · have hop := opOk_iff.1 h
      intro x hx
      simp only [List.mem_append, List.mem_cons, List.not_mem_nil, or_false, tx] at hx
      rcases hx with ((((hx | hx) | hx) | hx) | hx) | hx
      · omega
      · exact digs_lt _ _ _ hx
      · omega
      · rcases hx with hx | hx
        · omega
        · exact bl_lt _ _ hx
      · rcases hx with hx | hx
        · omega
        · exact bl_lt _ _ hx
      · rcases hx with hx | hx
        · omega
        · exact bl_lt _ _ hx

/-- The text that begins at a place, and the place behind it. -/
def rdT (l : List Nat) (a : Nat) : Option (ByteArray × Nat) := if (readS l (a : Int)).2.2 = 0 then some (str (readS l (a : Int)).1, (readS l (a : Int)).2.1) else none
theorem rdT_some {l : List Nat} {a n : Nat} (h : l[a]? = some n) (hn : a + 1 + n ≤ l.length) : rdT l a = some (str ((l.drop (a + 1)).take n), a + 1 + n) := by
  unfold rdT readS
  rw [getS_one h]
  have hq : ¬ (l.length - (a + 1) < n) := by omega
  simp [hq]
/-- The entry that begins at a place, and the place behind it. -/
def enRaw (l : List Nat) (a : Nat) : Option (Ent × Nat) :=
  if l[a]? = some 1 then some ({ k := 1 }, a + 1) else
  if l[a]? = some 2 ∧ a + 9 ≤ l.length then
    (rdT l (a + 9)).bind fun x => (rdT l x.2).bind fun y => (rdT l y.2).map fun z =>
      ({ k := 2, cl := (l.getD (a + 1) 0 : Nat), sq := (num ((l.drop (a + 2)).take 6) : Nat), ok := l.getD (a + 8) 0, key := x.1, old := y.1, val := z.1 }, z.2)
  else none
def enR (l : List Nat) (a : Nat) : Option (Ent × Nat) := (enRaw l a).bind fun x => if enOk x.1 = true then some x else none
theorem tx_at (l1 l3 : List Nat) (s : ByteArray) : (l1 ++ tx s ++ l3)[l1.length]? = some s.size := by
  rw [List.append_assoc, List.getElem?_append_right (Nat.le_refl _), Nat.sub_self]
  rfl
theorem rdT_tx (l1 l3 : List Nat) (s : ByteArray) {a : Nat} (ha : a = l1.length) : rdT (l1 ++ tx s ++ l3) a = some (s, a + (tx s).length) := by
  subst ha
  have hl := tx_length s
  rw [rdT_some (tx_at l1 l3 s) (by simp only [List.length_append]; omega)]
  have hd : ((l1 ++ tx s ++ l3).drop (l1.length + 1)).take s.size = bl s := by
    rw [List.append_assoc, ← List.drop_drop, List.drop_left]
    show ((bl s ++ l3)).take s.size = bl s
    rw [List.take_append_of_le_length (by rw [bl_length]; exact Nat.le_refl _), List.take_of_length_le (by rw [bl_length]; exact Nat.le_refl _)]
  rw [hd, str_blE, hl]
  congr 1
  congr 1
  omega
/-- What an entry's bytes are read as, whatever stands ahead of and behind them. -/
theorem en_back {e : Ent} (h : enOk e = true) (l1 l3 : List Nat) : enR (l1 ++ enL e ++ l3) l1.length = some (e, l1.length + (enL e).length) := by
  have hraw : enRaw (l1 ++ enL e ++ l3) l1.length = some (e, l1.length + (enL e).length) := by
    rcases enOk_iff.1 h with ⟨hk, h1, h2, h3, h4, h5, h6⟩ | ⟨hk, h1, h2, h3, h4, h5, h6⟩
    · have he : e = { k := 1 } := by
        obtain ⟨k, cl, sq, ok, key, old, val⟩ := e
        dsimp only at hk h1 h2 h3 h4 h5 h6
        subst hk h1 h2 h3
        rw [size_zero h4, size_zero h5, size_zero h6]
      subst he
      unfold enRaw enL
      rw [if_pos (by rw [if_pos rfl, List.append_assoc, List.getElem?_append_right (Nat.le_refl _), Nat.sub_self]; rfl)]
      rfl
    · have hop := opOk_iff.1 h5
      obtain ⟨cn, hcn⟩ := Int.eq_ofNat_of_zero_le h1
      obtain ⟨sn, hsn⟩ := Int.eq_ofNat_of_zero_le (show 0 ≤ e.sq by omega)
      have hL : enL e = [2, cn] ++ digs 6 sn ++ [e.ok] ++ tx e.key ++ tx e.old ++ tx e.val := by
        unfold enL
        rw [if_neg (by omega), hcn, hsn]
        rfl
      have hd6 := digs_length 6 sn
      have hfst : ∀ (i x : Nat), ([2, cn] ++ digs 6 sn ++ [e.ok])[i]? = some x → (l1 ++ enL e ++ l3)[l1.length + i]? = some x := fun i x hx => by
        have hi : i < ([2, cn] ++ digs 6 sn ++ [e.ok]).length := (List.getElem?_eq_some_iff.1 hx).1
        rw [hL, List.append_assoc, List.getElem?_append_right (by omega), Nat.add_sub_cancel_left, List.append_assoc, List.append_assoc, List.append_assoc, List.getElem?_append_left hi]
        exact hx
      have a0 := hfst 0 2 rfl
      have a1 := hfst 1 cn rfl
      have a8 : (l1 ++ enL e ++ l3)[l1.length + 8]? = some e.ok := hfst 8 e.ok (by rw [List.getElem?_append_right (by simp [hd6])]; simp [hd6])
      have hlen : (enL e).length = 9 + ((tx e.key).length + ((tx e.old).length + (tx e.val).length)) := by rw [hL]; simp only [List.length_append, List.length_cons, List.length_nil, hd6]; omega
      have htot : (l1 ++ enL e ++ l3).length = l1.length + (enL e).length + l3.length := by simp only [List.length_append]
      have r1 : rdT (l1 ++ enL e ++ l3) (l1.length + 9) = some (e.key, l1.length + 9 + (tx e.key).length) := by
        have := rdT_tx (l1 ++ ([2, cn] ++ digs 6 sn ++ [e.ok])) (tx e.old ++ tx e.val ++ l3) e.key (a := l1.length + 9) (by simp [hd6])
        rw [← this, hL]
        congr 1
        simp only [List.append_assoc]
      have r2 : rdT (l1 ++ enL e ++ l3) (l1.length + 9 + (tx e.key).length) = some (e.old, l1.length + 9 + (tx e.key).length + (tx e.old).length) := by
        have := rdT_tx (l1 ++ ([2, cn] ++ digs 6 sn ++ [e.ok]) ++ tx e.key) (tx e.val ++ l3) e.old (a := l1.length + 9 + (tx e.key).length) (by simp [hd6]; omega)
        rw [← this, hL]
        congr 1
        simp only [List.append_assoc]
      have r3 : rdT (l1 ++ enL e ++ l3) (l1.length + 9 + (tx e.key).length + (tx e.old).length) = some (e.val, l1.length + 9 + (tx e.key).length + (tx e.old).length + (tx e.val).length) := by
        have := rdT_tx (l1 ++ ([2, cn] ++ digs 6 sn ++ [e.ok]) ++ tx e.key ++ tx e.old) l3 e.val (a := l1.length + 9 + (tx e.key).length + (tx e.old).length) (by simp [hd6]; omega)
        rw [← this, hL]
        congr 1
        simp only [List.append_assoc]
      have hsq : ((l1 ++ enL e ++ l3).drop (l1.length + 2)).take 6 = digs 6 sn := by
        rw [hL]
        have : l1 ++ ([2, cn] ++ digs 6 sn ++ [e.ok] ++ tx e.key ++ tx e.old ++ tx e.val) ++ l3 = (l1 ++ [2, cn]) ++ (digs 6 sn ++ ([e.ok] ++ tx e.key ++ tx e.old ++ tx e.val ++ l3)) := by simp only [List.append_assoc]
        rw [this, show l1.length + 2 = (l1 ++ [2, cn]).length by simp, List.drop_left, List.take_append_of_le_length (by omega), List.take_of_length_le (by omega)]
      unfold enRaw
      rw [if_neg (by rw [show (l1 ++ enL e ++ l3)[l1.length]? = some 2 from a0]; simp), if_pos ⟨a0, by rw [htot, hlen]; omega⟩, r1]
      simp only [Option.bind_some]
      rw [r2]
      simp only [Option.bind_some]
      rw [r3]
      simp only [Option.map_some]
      rw [hsq, num_digs 6 sn (by omega), List.getD_eq_getElem?_getD, List.getD_eq_getElem?_getD, a1, a8, hlen]
      congr 1
      refine Prod.ext ?_ (by simp only; omega)
      obtain ⟨k, cl, sq, ok, key, old, val⟩ := e
      dsimp only at hk hcn hsn ⊢
      subst hk hcn hsn
      rfl
  unfold enR
  rw [hraw]
  simp [h]
theorem getD_some {l : List Nat} {p : Nat} (h : p < l.length) : l[p]? = some (l.getD p 0) := by
  rw [List.getD_eq_getElem?_getD, List.getElem?_eq_getElem h]
  rfl
end Go.Proofs.YtmacebglfniegaaGreatDoor

namespace Go.Proofs.YtmacebglfniegaaGreatDoor
set_option maxRecDepth 100000
open Go

/-- Which ballots may be. -/
def balE (x y : Int) : Bool := decide (1 ≤ x ∧ x ≤ 1099511627776 ∧ 0 ≤ y ∧ y ≤ 6)
theorem balE_iff {x y : Int} : balE x y = true ↔ (1 ≤ x ∧ x ≤ 1099511627776 ∧ 0 ≤ y ∧ y ≤ 6) := by unfold balE; exact decide_eq_true_iff
def bodyL (x y : Int) (e : Ent) : List Nat := digs 6 x.toNat ++ [y.toNat] ++ enL e
theorem bodyL_len {x y : Int} {e : Ent} (h : enOk e = true) : 8 ≤ (bodyL x y e).length ∧ (bodyL x y e).length ≤ 59 := by
  have := enL_len h
  unfold bodyL
  simp only [List.length_append, List.length_cons, List.length_nil, digs_length]
  omega
theorem bodyL_lt {x y : Int} {e : Ent} (h : enOk e = true) (hb : balE x y = true) : ∀ z ∈ bodyL x y e, z < 256 := by
  have hb := balE_iff.1 hb
  intro z hz
  unfold bodyL at hz
  simp only [List.mem_append, List.mem_singleton] at hz
  rcases hz with (hz | hz) | hz
  · exact digs_lt _ _ _ hz
  · omega
  · exact enL_lt h _ hz
/-- The body that bytes are. -/
def bdR (l : List Nat) : Option (Nat × Nat × Ent) :=
  if l.length < 7 then none else (enR l 7).bind fun r => if r.2 = l.length ∧ balE (num (l.take 6) : Nat) (l.getD 6 0 : Nat) = true then some (num (l.take 6), l.getD 6 0, r.1) else none
theorem bd_back {x y : Int} {e : Ent} (h : enOk e = true) (hb : balE x y = true) : ∃ a b : Nat, x = a ∧ y = b ∧ bdR (bodyL x y e) = some (a, b, e) := by
  have hbb := balE_iff.1 hb
  obtain ⟨a, rfl⟩ := Int.eq_ofNat_of_zero_le (show 0 ≤ x by omega)
  obtain ⟨b, rfl⟩ := Int.eq_ofNat_of_zero_le (show 0 ≤ y by omega)
  refine ⟨a, b, rfl, rfl, ?_⟩
  have hlen := bodyL_len (x := (a : Int)) (y := (b : Int)) h
  have h7 : (digs 6 a ++ [b]).length = 7 := by simp [digs_length]
  have hL : bodyL (a : Int) (b : Int) e = (digs 6 a ++ [b]) ++ enL e ++ [] := by unfold bodyL; simp
  have hr : enR (bodyL (a : Int) (b : Int) e) 7 = some (e, (bodyL (a : Int) (b : Int) e).length) := by
    have := en_back h (digs 6 a ++ [b]) []
    rw [← hL, h7] at this
    rw [this, hL]
    simp only [List.append_nil, List.length_append, h7]
  have ht : (bodyL (a : Int) (b : Int) e).take 6 = digs 6 a := by
    unfold bodyL
    rw [List.append_assoc, List.take_append_of_le_length (by rw [digs_length]; exact Nat.le_refl _), List.take_of_length_le (by rw [digs_length]; exact Nat.le_refl _)]
    rfl
  have h6 : (bodyL (a : Int) (b : Int) e).getD 6 0 = b := by
    rw [List.getD_eq_getElem?_getD]
    unfold bodyL
    rw [List.append_assoc, List.getElem?_append_right (by rw [digs_length]; exact Nat.le_refl _), digs_length]
    rfl
  unfold bdR
  rw [if_neg (by omega), hr]
  simp only [Option.bind_some]
  rw [ht, h6, num_digs 6 a (by omega)]
  simp [hb]
end Go.Proofs.YtmacebglfniegaaGreatDoor

namespace Go.Proofs.YtmacebglfniegaaGreatDoor
set_option maxRecDepth 100000
open Go

/-- Which records may be. -/
def recB (x y h : Int) : Bool := balE x y && decide (h = 0 ∨ h = 1)
theorem recB_iff {x y h : Int} : recB x y h = true ↔ (1 ≤ x ∧ x ≤ 1099511627776 ∧ 0 ≤ y ∧ y ≤ 6) ∧ (h = 0 ∨ h = 1) := by
  unfold recB
  rw [Bool.and_eq_true, balE_iff, decide_eq_true_iff]
/-- A record's bytes. -/
def recL (x y h : Int) : List Nat := digs 6 x.toNat ++ [y.toNat] ++ [h.toNat]
theorem recL_length (x y h : Int) : (recL x y h).length = 8 := by unfold recL; simp [digs_length]
theorem recL_lt {x y h : Int} (hb : recB x y h = true) : ∀ z ∈ recL x y h, z < 256 := by
  have hb := recB_iff.1 hb
  intro z hz
  unfold recL at hz
  simp only [List.mem_append, List.mem_singleton] at hz
  rcases hz with (hz | hz) | hz
  · exact digs_lt _ _ _ hz
  · omega
  · omega
/-- The record that bytes are. -/
def recR (l : List Nat) : Option (Nat × Nat × Nat) :=
  if l.length = 8 ∧ l.getD 7 0 ≤ 1 ∧ balE (num (l.take 6) : Nat) (l.getD 6 0 : Nat) = true then some (num (l.take 6), l.getD 6 0, l.getD 7 0) else none
theorem rec_back {x y h : Int} (hb : recB x y h = true) : ∃ a b c : Nat, x = a ∧ y = b ∧ h = c ∧ recR (recL x y h) = some (a, b, c) := by
  have hbb := recB_iff.1 hb
  obtain ⟨a, rfl⟩ := Int.eq_ofNat_of_zero_le (show 0 ≤ x by omega)
  obtain ⟨b, rfl⟩ := Int.eq_ofNat_of_zero_le (show 0 ≤ y by omega)
  obtain ⟨c, rfl⟩ := Int.eq_ofNat_of_zero_le (show 0 ≤ h by omega)
  refine ⟨a, b, c, rfl, rfl, rfl, ?_⟩
  have ht : (recL (a : Int) (b : Int) (c : Int)).take 6 = digs 6 a := by
    unfold recL
    rw [List.append_assoc, List.take_append_of_le_length (by rw [digs_length]; exact Nat.le_refl _), List.take_of_length_le (by rw [digs_length]; exact Nat.le_refl _)]
    rfl
  have h6 : (recL (a : Int) (b : Int) (c : Int)).getD 6 0 = b := by
    rw [List.getD_eq_getElem?_getD]
    unfold recL
    rw [List.append_assoc, List.getElem?_append_right (by rw [digs_length]; exact Nat.le_refl _), digs_length]
    rfl
  have h7 : (recL (a : Int) (b : Int) (c : Int)).getD 7 0 = c := by
    rw [List.getD_eq_getElem?_getD]
    unfold recL
    rw [List.append_assoc, List.getElem?_append_right (by rw [digs_length]; omega), digs_length]
    rfl
  unfold recR
  have hbal : balE (a : Int) (b : Int) = true := balE_iff.2 hbb.1
  rw [recL_length, ht, h6, h7, num_digs 6 a (by omega), if_pos ⟨rfl, by omega, hbal⟩]
end Go.Proofs.YtmacebglfniegaaGreatDoor
