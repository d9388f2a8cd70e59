/-
  A struct of integers that came in by value, opened: its fields' numbers; no program.
-/
import Derived.Deep.Fields
import Derived.ProofKit
import Derived.OpenShut
namespace Go.Proofs.YtgcjilifmcianaaDoor
open Go Go.RowKit Go.ChangeShapes Go.WideShapes Go.Deep

theorem open_agg_ints {H : Type} {enc : TypeId × Value → H} {P : Program} {w : World} {base : Nat} {sp : Nat → Bool} {held : Bool} {r : Reach} {b0 : Nat} {t : TypeId} {fs : Array Field} {v : Value} {d : DataW H} {p : List MemPlace}
    (hs : P.underlying t = some (.struct fs)) (hone : oneCellFields P fs = true) (hC : P.cellsOf t = fs.size) (hk : ∀ (j : Nat) (f : Field), fs[j]? = some f → P.underlying f.type = some (.int .i64))
    (hv : Value.okWide P w r b0 t v) (h : DataW.Trod enc P w base sp held t v d p) : ∃ xs : List Int, xs.length = fs.size ∧ v = .agg (xs.map (Value.int .i64)).toArray ∧ ∀ x ∈ xs, (Lit.int .i64 x).wf = true := by
  obtain ⟨cs, rfl, hsz⟩ := okWide_struct hs hv
  obtain ⟨fuel, hf⟩ := h
  obtain ⟨ys, n, _, _, hcl, hyl, hyf⟩ := DataW.trod_struct hs hf
  have hcl' : cs.toList.length = fs.size := by rw [Array.length_toList]; omega
  have each : ∀ (j : Nat) (c : Value), cs.toList[j]? = some c → ∃ x, c = .int .i64 x ∧ (Lit.int .i64 x).wf = true := by
    intro j c hc
    have hj : j < fs.size := by have := (List.getElem?_eq_some_iff.1 hc).1; omega
    have hf : fs[j]? = some fs[j] := Array.getElem?_eq_getElem hj
    obtain ⟨ho, hc1⟩ := hone_of hone j fs[j] hf
    have hfj := hyf j fs[j] hf
    rw [ho, hc1, List.getElem?_eq_getElem (by omega)] at hfj
    obtain ⟨x, hcs, _, hw⟩ := DataW.trod_int (hk j fs[j] hf) hfj
    refine ⟨x, ?_, hw⟩
    have h0 := congrArg (·[0]?) hcs
    have e : (Value.cells (.agg cs)).toList = cs.toList := rfl
    simp only [e] at h0
    rw [List.getElem?_take_of_lt (by omega), List.getElem?_drop, Nat.add_zero, hc] at h0
    simpa using h0
  have all : ∀ l : List Value, (∀ c ∈ l, ∃ x, c = .int .i64 x ∧ (Lit.int .i64 x).wf = true) → ∃ xs : List Int, l = xs.map (Value.int .i64) ∧ ∀ x ∈ xs, (Lit.int .i64 x).wf = true := by
    intro l
    induction l with
    | nil => intro _; exact ⟨[], rfl, by simp⟩
    | cons c l ih =>
      intro hl
      obtain ⟨x, rfl, hx⟩ := hl c (by simp)
      obtain ⟨xs, rfl, hxs⟩ := ih (fun c hc => hl c (by simp [hc]))
      exact ⟨x :: xs, rfl, by intro y hy; simp only [List.mem_cons] at hy; rcases hy with rfl | hy; exact hx; exact hxs y hy⟩
  obtain ⟨xs, hxs, hw⟩ := all cs.toList (fun c hc => by
    obtain ⟨j, hj, e⟩ := List.mem_iff_getElem.1 hc
    exact each j c (by rw [← e]; exact List.getElem?_eq_getElem hj))
  refine ⟨xs, ?_, ?_, hw⟩
  · rw [← hcl', hxs, List.length_map]
  · rw [← hxs]
/-- Five of them. -/
theorem open_agg5i {H : Type} {enc : TypeId × Value → H} {P : Program} {w : World} {base : Nat} {sp : Nat → Bool} {held : Bool} {r : Reach} {b0 : Nat} {t : TypeId} {fs : Array Field} {v : Value} {d : DataW H} {p : List MemPlace}
    (hs : P.underlying t = some (.struct fs)) (hone : oneCellFields P fs = true) (hC : P.cellsOf t = fs.size) (hk : ∀ (j : Nat) (f : Field), fs[j]? = some f → P.underlying f.type = some (.int .i64)) (h5 : fs.size = 5)
    (hv : Value.okWide P w r b0 t v) (h : DataW.Trod enc P w base sp held t v d p) : ∃ a b c d' e : Int, v = .agg #[.int .i64 a, .int .i64 b, .int .i64 c, .int .i64 d', .int .i64 e] := by
  obtain ⟨xs, hl, rfl, _⟩ := open_agg_ints hs hone hC hk hv h
  rw [h5] at hl
  match xs, hl with
  | [a, b, c, d', e], _ => exact ⟨a, b, c, d', e, rfl⟩
end Go.Proofs.YtgcjilifmcianaaDoor
