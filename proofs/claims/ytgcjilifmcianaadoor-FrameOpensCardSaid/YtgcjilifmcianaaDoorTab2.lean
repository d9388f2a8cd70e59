/-
  A package-level variable that reads as an array of structs of integers: its cells, one by one; no program.
-/
import Derived.LaidMore
import Derived.Lib.LaidTab
import Derived.Stop.LaidErr
import Derived.Deep.Fields
import Derived.OpenShut
namespace Go.Proofs.YtgcjilifmcianaaDoor
open Go Go.RowKit Go.ChangeShapes Go.WideShapes Go.Deep

/-- The datum: rows of integers. -/
def tab2 {H : Type} (k : IntKind) (rows : List (List Int)) : DataW H := .agg (rows.map fun r => .agg (r.map fun z => .lit (.int k z)))

theorem cells_of_tab2 {H : Type} {enc : TypeId × Value → H} {P : Program} {w : World} {base : Nat} {sp : Nat → Bool} {held : Bool} {fuel : Nat} {t e : TypeId} {n : Nat} {k : IntKind} {fs : Array Field} {cs : List Value} {rows : List (List Int)} {p : List MemPlace}
    (ht : P.underlying t = some (.array n e)) (he : P.underlying e = some (.struct fs)) (hone : oneCellFields P fs = true) (hC : P.cellsOf e = fs.size) (hk : ∀ (j : Nat) (f : Field), fs[j]? = some f → P.underlying f.type = some (.int k))
    (h : DataW.trod enc P w base sp held fuel t cs = some (tab2 k rows, p)) (i : Nat) (r : List Int) (hr : rows[i]? = some r) (j : Nat) (z : Int) (hz : r[j]? = some z) : cs[i * fs.size + j]? = some (.int k z) := by
  obtain ⟨xs, m, _, hx, _, hxl, hxi⟩ := DataW.trod_array ht h
  have hx1 : xs.map (·.1) = rows.map fun r => (.agg (r.map fun z => .lit (.int k z)) : DataW H) := by
    have := congrArg Prod.fst hx
    simp only [tab2, DataW.agg.injEq] at this
    exact this.symm
  have hin : i < n := by
    have h1 : i < rows.length := (List.getElem?_eq_some_iff.1 hr).1
    have h2 := congrArg List.length hx1
    simp at h2
    omega
  have hrow := hxi i hin
  obtain ⟨x, hxe⟩ : ∃ x, xs[i]? = some x := ⟨_, List.getElem?_eq_getElem (by omega)⟩
  have hx2 : x.1 = (.agg (r.map fun z => .lit (.int k z)) : DataW H) := by
    have := congrArg (·[i]?) hx1
    simpa [hxe, hr] using this
  rw [hxe, hC] at hrow
  obtain ⟨ys, m2, _, hy, _, hyl, hyf⟩ := DataW.trod_struct he hrow
  have hy1 : ys.map (·.1) = r.map fun z => (.lit (.int k z) : DataW H) := by
    have := congrArg Prod.fst hy
    rw [hx2] at this
    simp only [DataW.agg.injEq] at this
    exact this.symm
  have hjn : j < fs.size := by
    have h1 : j < r.length := (List.getElem?_eq_some_iff.1 hz).1
    have h2 := congrArg List.length hy1
    simp at h2
    omega
  have hf : fs[j]? = some fs[j] := Array.getElem?_eq_getElem hjn
  obtain ⟨ho, hc1⟩ := hone_of hone j fs[j] hf
  have hfj := hyf j fs[j] hf
  rw [ho, hc1] at hfj
  obtain ⟨y, hye⟩ : ∃ y, ys[j]? = some y := ⟨_, List.getElem?_eq_getElem (by omega)⟩
  rw [hye] at hfj
  obtain ⟨z', hcs, hyz, _⟩ := DataW.trod_int (hk j fs[j] hf) hfj
  have hz' : z' = z := by
    have := congrArg (·[j]?) hy1
    simpa [hye, hyz, hz] using this
  subst hz'
  have := congrArg (·[0]?) hcs
  simp [List.getElem?_drop, hjn] at this
  exact this

/-- The variable at the head of a row's list, read through. -/
theorem tab2_of_head {P : Program} {W : World} {name : String} {k : IntKind} {rows : List (List Int)} {rest : List (String × DataW Unit)} {g : Nat} {t e : TypeId} {n : Nat} {fs : Array Field}
    (hg : P.globalNamed name = some g) (hty : (P.globals[g]?).map (·.type) = some t) (ht : P.underlying t = some (.array n e)) (he : P.underlying e = some (.struct fs)) (hone : oneCellFields P fs = true) (hC : P.cellsOf e = fs.size) (hk : ∀ (j : Nat) (f : Field), fs[j]? = some f → P.underlying f.type = some (.int k))
    (h : laidMet P ((name, tab2 k rows) :: rest) W) (i : Nat) (r : List Int) (hr : rows[i]? = some r) (j : Nat) (z : Int) (hz : r[j]? = some z) : W.cell? ⟨g, i * fs.size + j, none⟩ = some (.int k z) := by
  obtain ⟨ps, ⟨g', t', cs, fuel, p, q, hg', ht', hvar, hd, _, _⟩, _⟩ := h
  obtain rfl := Option.some.inj (hg.symm.trans hg')
  obtain rfl := Option.some.inj (hty.symm.trans ht')
  have hc := cells_of_tab2 ht he hone hC hk hd i r hr j z hz
  exact (World.var?_cell hg hvar (i * fs.size + j)).trans (by simpa using hc)
end Go.Proofs.YtgcjilifmcianaaDoor
