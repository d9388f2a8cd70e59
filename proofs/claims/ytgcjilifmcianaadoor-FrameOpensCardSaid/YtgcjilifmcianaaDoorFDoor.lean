/-
  What the row's listing of the four tables gives the walks, and that the program's own start meets it.
-/
import Derived.Test.YtgcjilifmcianaaDoorRows
import Derived.Test.YtgcjilifmcianaaDoorFSeal
import Derived.Test.YtgcjilifmcianaaDoorTab2
import Derived.Test.YtgcjilifmcianaaDoorAgg
import Derived.Test.YtgcjilifmcianaaDoorOpen
import Derived.ProofKit
import Derived.LaidMore
import Derived.Lib.LaidTab
import Derived.Stop.Joined
namespace Go.Proofs.YtgcjilifmcianaaDoor
open Go Go.ChangeShapes Go.WideShapes Go.ChangeAt Go.WideMaps Go.WideElems Go.RowKit Go.Deep

def laidList : List (String × DataW Unit) := [("sexton/crc.halves", Rows.laid_sexton_crc_halves), ("sexton/octet.bounds", Rows.laid_sexton_octet_bounds), ("sexton/tag.regions", Rows.laid_sexton_tag_regions), ("sexton/tag.widths", Rows.laid_sexton_tag_widths)]

theorem door_met (os : Os) (args : Array Value) : laidMetH Tryd.prog laidList ((World.doorLaid Tryd.prog 400 os).forCall (fun _ _ => 0) ⟨#[], args, []⟩).memory :=
  laidMetH_of_parts3 (fuel := 8) (laidMet_of_run' 8 (by kernel_rfl) (by kernel_rfl)) (by kernel_rfl) (by kernel_rfl)

theorem tag_fields (fs : Array Field) (hs : Tryd.prog.underlying 23 = some (.struct fs)) (j : Nat) (f : Field) (hf : fs[j]? = some f) : Tryd.prog.underlying f.type = some (.int .i64) := by
  rw [Tryd.underlying23] at hs
  injection hs with hs
  injection hs with hs
  subst hs
  match j, hf with
  | 0, hf => injection hf with hf; subst hf; exact Tryd.underlying3
  | 1, hf => injection hf with hf; subst hf; exact Tryd.underlying3
  | 2, hf => injection hf with hf; subst hf; exact Tryd.underlying3
  | 3, hf => injection hf with hf; subst hf; exact Tryd.underlying3
  | 4, hf => injection hf with hf; subst hf; exact Tryd.underlying3
  | (j + 5), hf => simp at hf
/-- A tag that came in, opened (the name is the frame's: open_t and the type's number). -/
theorem open_t23 {H : Type} {enc : TypeId × Value → H} {w : World} {base : Nat} {sp : Nat → Bool} {held : Bool} {r : Reach} {b0 : Nat} {v : Value} {d : DataW H} {p : List MemPlace}
    (hv : Value.okWide Tryd.prog w r b0 23 v) (h : DataW.Trod enc Tryd.prog w base sp held 23 v d p) : ∃ a b c d' e : Int, v = .agg #[.int .i64 a, .int .i64 b, .int .i64 c, .int .i64 d', .int .i64 e] :=
  open_agg5i Tryd.underlying23 (by kernel_rfl) (by kernel_rfl) (tag_fields _ Tryd.underlying23) rfl hv h

theorem laid_o {W : World} {rest : List (String × DataW Unit)} (h : laidMet Tryd.prog (("sexton/octet.bounds", Rows.laid_sexton_octet_bounds) :: rest) W) : Laid W := by
  have hg : Tryd.prog.globalNamed "sexton/octet.bounds" = some 1 := by kernel_rfl
  have ht : (Tryd.prog.globals[1]?).map (·.type) = some 86 := by kernel_rfl
  have hv : W.var? Tryd.prog "sexton/octet.bounds" = some (([0, 256, 65536, 0, 4294967296, 0, 281474976710656] : List Int).map fun z => Value.int .i64 z).toArray :=
    Lib.tabIs_of_head hg ht Tryd.underlying86 Tryd.underlying3 (by kernel_rfl) (by kernel_rfl) h
  have hc := fun i => World.var?_cell hg hv i
  exact ⟨hc 0, hc 1, hc 2, hc 3, hc 4, hc 5, hc 6⟩

theorem laid_t {W : World} {rest : List (String × DataW Unit)} (h : laidMet Tryd.prog (("sexton/tag.regions", Rows.laid_sexton_tag_regions) :: rest) W) : LaidT W := by
  have hg : Tryd.prog.globalNamed "sexton/tag.regions" = some 4 := by kernel_rfl
  have ht : (Tryd.prog.globals[4]?).map (·.type) = some 89 := by kernel_rfl
  have hc := tab2_of_head (k := .i64) (rows := [[0, 0], [2, 1], [2, 1], [24, 1], [48, 2], [16, 2]]) hg ht Tryd.underlying89 Tryd.underlying84 (by kernel_rfl) (by kernel_rfl)
    (fun j f hf => by
      match j, hf with
      | 0, hf => injection hf with hf; subst hf; exact Tryd.underlying3
      | 1, hf => injection hf with hf; subst hf; exact Tryd.underlying3
      | (j + 2), hf => simp at hf) h
  have row : ∀ (i : Nat) (a b : Int), ([[0, 0], [2, 1], [2, 1], [24, 1], [48, 2], [16, 2]] : List (List Int))[i]? = some [a, b] → W.cell? ⟨4, i * 2, none⟩ = some (.int .i64 a) ∧ W.cell? ⟨4, i * 2 + 1, none⟩ = some (.int .i64 b) := fun i a b hi => ⟨hc i [a, b] hi 0 a rfl, hc i [a, b] hi 1 b rfl⟩
  intro r hr
  have hj' : r = 0 ∨ r = 1 ∨ r = 2 ∨ r = 3 ∨ r = 4 ∨ r = 5 := by omega
  rcases hj' with rfl | rfl | rfl | rfl | rfl | rfl
  · exact row 0 0 0 rfl
  · exact row 1 2 1 rfl
  · exact row 2 2 1 rfl
  · exact row 3 24 1 rfl
  · exact row 4 48 2 rfl
  · exact row 5 16 2 rfl

theorem laid_w {W : World} {rest : List (String × DataW Unit)} (h : laidMet Tryd.prog (("sexton/tag.widths", Rows.laid_sexton_tag_widths) :: rest) W) : LaidW W := by
  have hg : Tryd.prog.globalNamed "sexton/tag.widths" = some 0 := by kernel_rfl
  have ht : (Tryd.prog.globals[0]?).map (·.type) = some 65 := by kernel_rfl
  have hv : W.var? Tryd.prog "sexton/tag.widths" = some (([1, 1, 1, 6, 6] : List Int).map fun z => Value.int .i64 z).toArray :=
    Lib.tabIs_of_head hg ht Tryd.underlying65 Tryd.underlying3 (by kernel_rfl) (by kernel_rfl) h
  have hc := fun i => World.var?_cell hg hv i
  intro k hk
  have hj' : k = 0 ∨ k = 1 ∨ k = 2 ∨ k = 3 ∨ k = 4 := by omega
  rcases hj' with rfl | rfl | rfl | rfl | rfl
  · exact hc 0
  · exact hc 1
  · exact hc 2
  · exact hc 3
  · exact hc 4

theorem laid_h {W : World} {rest : List (String × DataW Unit)} (h : laidMet Tryd.prog (("sexton/crc.halves", Rows.laid_sexton_crc_halves) :: rest) W) : LaidH W := by
  have hg : Tryd.prog.globalNamed "sexton/crc.halves" = some 2 := by kernel_rfl
  have ht : (Tryd.prog.globals[2]?).map (·.type) = some 87 := by kernel_rfl
  have hv : W.var? Tryd.prog "sexton/crc.halves" = some (([0, 274646895, 549293790, 820201905, 1098587580, 1361435347, 1640403810, 1905808397, 2197175160, 2460548119, 2722870694, 2987750089, 3280807620, 3553878443, 3811616794, 4084100981] : List Int).map fun z => Value.int .u32 z).toArray :=
    Lib.tabIs_of_head hg ht Tryd.underlying87 Tryd.underlying47 (by kernel_rfl) (by kernel_rfl) h
  have hc := fun i => World.var?_cell hg hv i
  intro i hi
  have e : ∀ j, j < 16 → ((([0, 274646895, 549293790, 820201905, 1098587580, 1361435347, 1640403810, 1905808397, 2197175160, 2460548119, 2722870694, 2987750089, 3280807620, 3553878443, 3811616794, 4084100981] : List Int).map fun z => Value.int .u32 z).toArray)[j]? = some (.int .u32 ((stps 4 j : Nat) : Int)) := by
    intro j hj
    have hj' : j = 0 ∨ j = 1 ∨ j = 2 ∨ j = 3 ∨ j = 4 ∨ j = 5 ∨ j = 6 ∨ j = 7 ∨ j = 8 ∨ j = 9 ∨ j = 10 ∨ j = 11 ∨ j = 12 ∨ j = 13 ∨ j = 14 ∨ j = 15 := by omega
    rcases hj' with rfl | rfl | rfl | rfl | rfl | rfl | rfl | rfl | rfl | rfl | rfl | rfl | rfl | rfl | rfl | rfl <;> rfl
  exact (hc i).trans (e i hi)

theorem laid_of {W : World} (h : laidMetH Tryd.prog laidList W) : LaidF W := by
  rw [MakeChecks.laidMetH_plain _ _ _ (by kernel_rfl)] at h
  exact ⟨⟨laid_o h.tail, laid_t h.tail.tail, laid_w h.tail.tail.tail⟩, laid_h h⟩
end Go.Proofs.YtgcjilifmcianaaDoor
