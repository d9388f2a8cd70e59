/-
  The contract of ballot's Max.
-/
import Derived.Test.YtdbpdhlecgoclaaDoorBlC
import Derived.Deep.DeepCutAuto
namespace Go.Proofs.YtdbpdhlecgoclaaDoor
set_option maxRecDepth 100000
open Go Go.RowKit

theorem ext_of_cellB {w w' : World} {g i : Nat} {v : Value} (h : Ext w w') (hc : w.cell? ⟨g, i, none⟩ = some v) : w'.cell? ⟨g, i, none⟩ = some v := (Below.cell h (p := ⟨g, i, none⟩) (World.block_lt_of_cell? w _ hc)).trans hc
theorem ballot_info : (Tryd.prog.info? 23).map (fun i => (i.zero, i.size, i.bytes)) = some (some (.agg #[.int .i64 0, .int .i64 0]), 2, 16) := by kernel_rfl
theorem Ls.dropB {w : World} {B g o o' n c q : Nat} {l : List Bal} (h : Ls Bal.cells 2 w B (some ⟨g, o, none⟩) n c l) (hq : q ≤ n) (ho : 0 < n - q → o' = o + q * 2) : Ls Bal.cells 2 w B (some ⟨g, o', none⟩) (n - q) (c - q) (l.drop q) := by
  have hc := h.cap
  have hm := h.most
  refine ⟨by rw [List.length_drop, h.len], by omega, by omega, fun hn => ?_, fun e => by cases e⟩
  obtain ⟨g', o1, e, hg, hcell⟩ := h.rd (by omega)
  injection e with e
  injection e with e1 e2
  subst e1 e2
  refine ⟨g, o', rfl, hg, fun j a ha k v hv => ?_⟩
  rw [List.getElem?_drop] at ha
  rw [ho hn, show o + q * 2 + (j * 2 + k) = o + ((q + j) * 2 + k) by omega]
  exact hcell _ a ha k v hv
theorem Ls.moreB {α : Type} {cells : α → List Value} {N : Nat} {w : World} {B B' : Nat} {A : Option Addr} {n c : Nat} {l : List α} (h : Ls cells N w B A n c l) (hB : B ≤ B') : Ls cells N w B' A n c l :=
  ⟨h.len, h.cap, h.most, fun hn => by
    obtain ⟨g, o, e, hg, hc⟩ := h.rd hn
    exact ⟨g, o, e, by omega, hc⟩, h.nil_⟩
theorem keep_rowB {w w' : World} {b : Nat} {o : Obj} (k : Ext w w') (h : w.heap[b]? = some o) : w'.heap[b]? = some o := (k.block b (Array.getElem?_eq_some_iff.1 h).1).trans h
theorem row_setB {w : World} {g t : Nat} {fr : Nat × Nat} {cs cs' : Array Value} (i : Nat) (h : w.heap[g]? = some (.cells cs t fr)) (x : Value) (e : cs.setIfInBounds i x = cs') : (w.setCell ⟨g, i, none⟩ x).heap[g]? = some (.cells cs' t fr) := by
  subst e
  rw [setCell_eq_setRow w g i cs t fr x h]
  exact setRow_heap w g _ _ _ _ h
theorem bal_store {w : World} {b : Nat} {x y : Int} {t : TypeId} (x' y' : Int) (h : w.heap[b]? = some (.cells #[.int .i64 x, .int .i64 y] t (0, 0))) : ((w.setCell ⟨b, 0, none⟩ (.int .i64 x')).setCell ⟨b, 1, none⟩ (.int .i64 y')).heap[b]? = some (.cells #[.int .i64 x', .int .i64 y'] t (0, 0)) := row_setB 1 (row_setB 0 h (.int .i64 x') rfl) (.int .i64 y') rfl
theorem bal_stored {w : World} {b : Nat} (x' y' : Int) {b' : Nat} {o : Obj} (hb : b' ≠ b) (h' : w.heap[b']? = some o) : ((w.setCell ⟨b, 0, none⟩ (.int .i64 x')).setCell ⟨b, 1, none⟩ (.int .i64 y')).heap[b']? = some o := by
  have m1 : Mod (fun k => k = b) w (w.setCell ⟨b, 0, none⟩ (.int .i64 x')) := Mod.setCell (F := fun k => k = b) (Mod.refl (fun k => k = b) w) (p := ⟨b, 0, none⟩) (.inl rfl) _
  have m2 : Mod (fun k => k = b) (w.setCell ⟨b, 0, none⟩ (.int .i64 x')) ((w.setCell ⟨b, 0, none⟩ (.int .i64 x')).setCell ⟨b, 1, none⟩ (.int .i64 y')) := Mod.setCell (F := fun k => k = b) (Mod.refl (fun k => k = b) _) (p := ⟨b, 1, none⟩) (.inl rfl) _
  exact heap_mod (heap_mod h' m1 hb) m2 hb
def lenOf : Value → Nat
  | .slice _ n _ => n
  | _ => 0
theorem bal_row {w : World} {b : Nat} {x y : Int} {t : TypeId} (h : w.heap[b]? = some (.cells #[.int .i64 x, .int .i64 y] t (0, 0))) : w.cell? ⟨b, 0, none⟩ = some (.int .i64 x) ∧ w.cell? ⟨b, 1, none⟩ = some (.int .i64 y) ∧ w.frozen? ⟨b, 0, none⟩ = false ∧ w.frozen? ⟨b, 1, none⟩ = false :=
  ⟨cell_of_row w b 0 _ _ _ h, cell_of_row w b 1 _ _ _ h, frozen_of_row w b 0 _ _ h, frozen_of_row w b 1 _ _ h⟩
end Go.Proofs.YtdbpdhlecgoclaaDoor
