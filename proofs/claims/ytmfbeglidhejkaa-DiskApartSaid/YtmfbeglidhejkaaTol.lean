/-
  Bytes that a disk told, kept beside it.
-/
import Derived.Test.YtmfbeglidhejkaaKPd
namespace Go.Proofs.Ytmfbeglidhejkaa
open Go Go.RowKit
structure Tol (F : Nat → Prop) (w : World) (A : Option Addr) (n : Nat) (l : List Nat) : Prop where
  new : New 0 w A n l
  off : Off F A
section
variable {F : Nat → Prop} {w w' : World} {A : Option Addr} {n B : Nat} {l : List Nat}
theorem Tol.of (h : New B w A n l) (hF : ∀ i, F i → i < B) : Tol F w A n l := ⟨h.base (Nat.zero_le _), h.off hF⟩
theorem Tol.ext (h : Tol F w A n l) (k : Ext w w') : Tol F w' A n l := ⟨h.new.ext k, h.off⟩
theorem Tol.lt (h : Tol F w A n l) : ∀ p, A = some p → p.block < w.heap.size := fun p hp => by
  rcases h.new.at_ with ⟨_, h0⟩ | ⟨g, t, e, _, hg⟩
  · rw [h0] at hp; cases hp
  · rw [e] at hp
    injection hp with hp
    subst hp
    exact (Array.getElem?_eq_some_iff.1 hg).1
theorem Tol.step (h : Tol F w A n l) (k : Mod F w w') : Tol (grow F w w') w' A n l :=
  ⟨h.new.mod k h.off, fun p hp hf => hf.elim (h.off p hp) fun h2 => by
    have := h.lt p hp
    omega⟩
end
end Go.Proofs.Ytmfbeglidhejkaa
