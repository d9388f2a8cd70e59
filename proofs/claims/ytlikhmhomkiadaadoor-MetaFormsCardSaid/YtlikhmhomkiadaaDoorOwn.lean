/-
  Rows of bytes that the call itself has made: kept over calls that write nothing that was there.
-/
import Derived.Test.YtlikhmhomkiadaaDoorApp
import Derived.Laws.OwnMore
namespace Go.Proofs.YtlikhmhomkiadaaDoor
set_option maxRecDepth 100000
open Go Go.RowKit

theorem own_ext {w w' : World} {base : Nat} {e : TypeId} {size : Nat} {v : Value} {n : Nat} {xs : List Value} (h : w.ownsRow base e size v n xs) (k : Ext w w') : w'.ownsRow base e size v n xs := by
  refine ⟨h.1, ?_⟩
  rcases h.2 with h0 | ⟨g, cap, cur, hv, hb, hg, h1⟩
  · exact .inl h0
  · exact .inr ⟨g, cap, cur, hv, hb, (k.block g (Array.getElem?_eq_some_iff.1 hg).1).trans hg, h1⟩
/-- A literal of bytes that the call has just made is its own. -/
theorem own_lit (w : World) (l : List Nat) (base : Nat) (e : TypeId) (hb : base ≤ w.heap.size) (hm : l.length ≤ 9223372036854775807) (cs : Array Value) (hcs : cs = (vb l).toArray) : (w.alloc (.cells cs e)).ownsRow base e 1 (.slice (some ⟨w.heap.size, 0, none⟩) l.length l.length) l.length (vb l) := by
  subst hcs
  have h := World.ownsRow_lit (e := e) (size := 1) w (vb l).toArray l.length hb (by unfold maxLen; omega) (by simp [vb_length])
  simpa using h
end Go.Proofs.YtlikhmhomkiadaaDoor
