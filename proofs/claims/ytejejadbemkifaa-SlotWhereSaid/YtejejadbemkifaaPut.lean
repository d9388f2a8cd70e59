/-
  The contracts of Put, the program's and the document's: the bytes of a number in a width, or which error.
-/
import Derived.Test.YtejejadbemkifaaLaid
import Derived.Test.YtejejadbemkifaaCopy
import Derived.OwnWalk
namespace Go.Proofs.Ytejejadbemkifaa
set_option maxRecDepth 100000
open Go Go.RowKit

theorem pad_set (k x N : Nat) (hk : k < x) : (vb (digs k N ++ List.replicate (x - k) 0)).set k (.int .u8 ((N / 256 ^ k % 256 : Nat) : Int)) = vb (digs (k + 1) N ++ List.replicate (x - (k + 1)) 0) := by
  have e : x - k = (x - (k + 1)) + 1 := by omega
  rw [digs_snoc, e, List.replicate_succ]
  simp only [vb, List.map_append, List.map_cons, List.append_assoc, List.map_nil]
  rw [List.set_append_right _ _ (by simp [digs_length])]
  simp [digs_length]

theorem shr_byte (N k : Nat) : (((N : Int) / 2 ^ (8 * k)) % 256) = ((N / 256 ^ k % 256 : Nat) : Int) := by
  have e : (2 : Nat) ^ (8 * k) = 256 ^ k := by rw [Nat.pow_mul]
  rw [← e]
  simp

theorem rput_step {w wr w1 : World} {k q N : Nat} {v v1 : Value} (hq : q = N / 256 ^ k) (hown : wr.ownsRow w.heap.size 5 1 v k (vb (digs k N))) (hbel : Below w.heap.size w wr)
    (hown1 : w1.ownsRow w.heap.size 5 1 v1 (k + 1) (vb (digs k N) ++ [.int .u8 ((q : Int) % 256)])) (hg : (wr.alloc (.cells #[.int .u8 ((q : Int) % 256)] 5)).grownBy w1 v.ownBlock) :
    w1.ownsRow w.heap.size 5 1 v1 (k + 1) (vb (digs (k + 1) N)) ∧ Below w.heap.size w w1 := by
  refine ⟨?_, ?_⟩
  · rw [digs_snoc, vb_append]
    have e : ((q : Int) % 256) = ((N / 256 ^ k % 256 : Nat) : Int) := by rw [← hq]; omega
    rw [e] at hown1
    exact hown1
  · refine (hbel.alloc hbel.size _).grown hg (Nat.le_trans hbel.size (by simp)) ?_
    intro g hg'
    exact (hown.lt g hg').1

end Go.Proofs.Ytejejadbemkifaa
