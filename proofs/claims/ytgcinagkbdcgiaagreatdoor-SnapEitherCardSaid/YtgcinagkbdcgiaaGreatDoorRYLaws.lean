/-
  SnapRises and SnapEither.
-/
import Derived.Test.YtgcinagkbdcgiaaGreatDoorR00
import Derived.Test.YtgcinagkbdcgiaaGreatDoorR32
namespace Go.Proofs.YtgcinagkbdcgiaaGreatDoor
set_option maxRecDepth 100000
open Go Go.RowKit
theorem u8_natY {z : Int} (hz : (Lit.int .u8 z).wf = true) : ∃ k : Nat, z = (k : Int) ∧ k < 256 := by
  have h : (decide (IntKind.u8.min ≤ z) && decide (z ≤ IntKind.u8.max)) = true := hz
  rw [Bool.and_eq_true] at h
  have h1 := of_decide_eq_true h.1
  have h2 := of_decide_eq_true h.2
  have e1 : (IntKind.u8.min : Int) = 0 := by decide
  have e2 : (IntKind.u8.max : Int) = 255 := by decide
  rw [e1] at h1
  rw [e2] at h2
  exact ⟨z.toNat, by omega, by omega⟩
theorem snapRises_law (A : Option Addr) (n c : Nat) (L : List Lst) (ix : Int) (B : Option Addr) (nb cb : Nat) (bs : List Nat) (w : World) (h1 : Lsts w w.heap.size A n c L) (_ : (Lit.int .i64 ix).wf = true) (h2 : Bs w w.heap.size B nb cb bs) (hL : LaidY w) :
    Calls Tryz.prog 8 #[.slice A n c, .int .i64 ix, .slice B nb cb] w fun e w' => e = .returned (.bool true) ∧ Ext w w' :=
  snapRises_of A n c L ix B nb cb bs w h1 h2 hL (yawake_any w hL)
theorem snapEither_law (A : Option Addr) (n c : Nat) (L : List Lst) (B : Option Addr) (nb cb : Nat) (bs : List Nat) (p : Int) (kA : Option Addr) (kn kc : Nat) (kl : List Bool) (w : World) (h1 : Lsts w w.heap.size A n c L) (h2 : Bs w w.heap.size B nb cb bs) (hp : (Lit.int .u8 p).wf = true) (h3 : Vs w w.heap.size kA kn kc (kl.map .bool)) (hL : LaidY w) :
    Calls Tryz.prog 5 #[.slice A n c, .slice B nb cb, .int .u8 p, .slice kA kn kc] w fun e w' => e = .returned (.bool true) ∧ Ext w w' := by
  obtain ⟨k, rfl, hk⟩ := u8_natY hp
  exact snapEither_of A n c L B nb cb bs k kA kn kc kl w h1 h2 hk h3 hL (yawake_any w hL)
end Go.Proofs.YtgcinagkbdcgiaaGreatDoor
