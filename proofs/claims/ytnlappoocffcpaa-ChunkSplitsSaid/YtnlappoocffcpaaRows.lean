/-
  No cell of these rows narrows 'for every input' (looked for: loops, veiled, ifaces, maps, wideKeys, modest, calm, conditions, laid).
  DERIVED. THE GIVEN ROWS OF THIS SEAT. 5 by the template 'for every input the law returns true; each argument reads behind the call as it read before'; 0 by the template 'total and deterministic' (their statements: YtnlappoocffcpaaTotals.lean).
  GIVEN WITH THE SEED: the statements are not yours to turn. If you find one false, say at which input.
  Laid BY PROGRAM, IN A SANDBOX (cutbox-rows.mjs): the forced cells as the released guide's own fill.sh prints them over the translation a945613bc037de6b… (all of the seat's roots in one cut). By AI agents, Wed Nov 11 2026. No macro, syntax, notation, axiom, sorry.
-/
import Derived.Test.YtnlappoocffcpaaChecked
import GoSem.Claim
import GoSem.ClaimJoined
import GoSem.ClaimMapViews
import Derived.JoinedTies
import Derived.KernelRfl
namespace Go.Proofs.Ytnlappoocffcpaa
/- THE CELL 'sum', in the pinned program and in every row, IS THE sha256 OF THE DUMP (.gsa) THAT YtnlappoocffcpaaProg.lean LOADS. Nothing in Lean hashes anything: it is a label: what it is worth is what the hold of that sum in a sandbox is worth. -/
noncomputable def Try.pinned : Pinned := { name := "ytnlappoocffcpaa", sum := "a945613bc037de6bcf652e02579e4b102b8622a3bebca23706d9cec92f848b41", checked := Try.checked }
namespace Rows
def none {H : Type} : Left H := { results := [], args := [] }

/-- 'sextonlaw12.ChunkSplits': WHATEVER THE INPUT: true; the input reads as it did. -/
def chunkSplitsSpec : ChangeSpec := { name := "chunkSplits", fn := fun _ => fun
  | [d1, d2] => { results := [.lit (.bool true)], args := [d1, d2] }
  | _ => none }
def chunkSplitsRow : OpenClaim := { program := "ytnlappoocffcpaa", sum := "a945613bc037de6bcf652e02579e4b102b8622a3bebca23706d9cec92f848b41", func := "sexton/sextonlaw12.ChunkSplits", spec := "chunkSplits", unfollowed := true, recurses := true, apart := false }
def ChunkSplitsSaid : Prop := chunkSplitsRow.holds Try.pinned (OpenSpec.ofChange chunkSplitsSpec)

/-- ITS FALSE NEIGHBOUR: 'it returns false'. Refute it at one input. -/
def chunkSplitsWrong : ChangeSpec := { name := "chunkSplits", fn := fun _ => fun
  | [d1, d2] => { results := [.lit (.bool false)], args := [d1, d2] }
  | _ => none }
def ChunkSplitsWrongFalsely : Prop := chunkSplitsRow.holds Try.pinned (OpenSpec.ofChange chunkSplitsWrong)

/-- 'sextonlaw12.ChunkHeaps': WHATEVER THE INPUT: true; the input reads as it did. -/
def chunkHeapsSpec : ChangeSpec := { name := "chunkHeaps", fn := fun _ => fun
  | [d1, d2] => { results := [.lit (.bool true)], args := [d1, d2] }
  | _ => none }
def chunkHeapsRow : OpenClaim := { program := "ytnlappoocffcpaa", sum := "a945613bc037de6bcf652e02579e4b102b8622a3bebca23706d9cec92f848b41", func := "sexton/sextonlaw12.ChunkHeaps", spec := "chunkHeaps", unfollowed := true, recurses := true, apart := false }
def ChunkHeapsSaid : Prop := chunkHeapsRow.holds Try.pinned (OpenSpec.ofChange chunkHeapsSpec)

/-- ITS FALSE NEIGHBOUR: 'it returns false'. Refute it at one input. -/
def chunkHeapsWrong : ChangeSpec := { name := "chunkHeaps", fn := fun _ => fun
  | [d1, d2] => { results := [.lit (.bool false)], args := [d1, d2] }
  | _ => none }
def ChunkHeapsWrongFalsely : Prop := chunkHeapsRow.holds Try.pinned (OpenSpec.ofChange chunkHeapsWrong)

/-- 'sextonlaw12.ChunkNil': WHATEVER THE INPUT: true; the input reads as it did. -/
def chunkNilSpec : ChangeSpec := { name := "chunkNil", fn := fun _ => fun
  | [d1, d2] => { results := [.lit (.bool true)], args := [d1, d2] }
  | _ => none }
def chunkNilRow : OpenClaim := { program := "ytnlappoocffcpaa", sum := "a945613bc037de6bcf652e02579e4b102b8622a3bebca23706d9cec92f848b41", func := "sexton/sextonlaw12.ChunkNil", spec := "chunkNil", unfollowed := true, recurses := true, apart := false }
def ChunkNilSaid : Prop := chunkNilRow.holds Try.pinned (OpenSpec.ofChange chunkNilSpec)

/-- ITS FALSE NEIGHBOUR: 'it returns false'. Refute it at one input. -/
def chunkNilWrong : ChangeSpec := { name := "chunkNil", fn := fun _ => fun
  | [d1, d2] => { results := [.lit (.bool false)], args := [d1, d2] }
  | _ => none }
def ChunkNilWrongFalsely : Prop := chunkNilRow.holds Try.pinned (OpenSpec.ofChange chunkNilWrong)

/-- 'sextonlaw12.ChunkBack': WHATEVER THE INPUT: true; the input reads as it did. -/
def chunkBackSpec : ChangeSpec := { name := "chunkBack", fn := fun _ => fun
  | [d1, d2] => { results := [.lit (.bool true)], args := [d1, d2] }
  | _ => none }
def chunkBackRow : OpenClaim := { program := "ytnlappoocffcpaa", sum := "a945613bc037de6bcf652e02579e4b102b8622a3bebca23706d9cec92f848b41", func := "sexton/sextonlaw12.ChunkBack", spec := "chunkBack", unfollowed := true, recurses := true, apart := false }
def ChunkBackSaid : Prop := chunkBackRow.holds Try.pinned (OpenSpec.ofChange chunkBackSpec)

/-- ITS FALSE NEIGHBOUR: 'it returns false'. Refute it at one input. -/
def chunkBackWrong : ChangeSpec := { name := "chunkBack", fn := fun _ => fun
  | [d1, d2] => { results := [.lit (.bool false)], args := [d1, d2] }
  | _ => none }
def ChunkBackWrongFalsely : Prop := chunkBackRow.holds Try.pinned (OpenSpec.ofChange chunkBackWrong)

/-- 'sextonlaw12.ChunkAnyOrder': WHATEVER THE INPUT: true; the input reads as it did. -/
def chunkAnyOrderSpec : ChangeSpec := { name := "chunkAnyOrder", fn := fun _ => fun
  | [d1, d2, d3] => { results := [.lit (.bool true)], args := [d1, d2, d3] }
  | _ => none }
def chunkAnyOrderRow : OpenClaim := { program := "ytnlappoocffcpaa", sum := "a945613bc037de6bcf652e02579e4b102b8622a3bebca23706d9cec92f848b41", func := "sexton/sextonlaw12.ChunkAnyOrder", spec := "chunkAnyOrder", unfollowed := true, recurses := true, apart := false }
def ChunkAnyOrderSaid : Prop := chunkAnyOrderRow.holds Try.pinned (OpenSpec.ofChange chunkAnyOrderSpec)

/-- ITS FALSE NEIGHBOUR: 'it returns false'. Refute it at one input. -/
def chunkAnyOrderWrong : ChangeSpec := { name := "chunkAnyOrder", fn := fun _ => fun
  | [d1, d2, d3] => { results := [.lit (.bool false)], args := [d1, d2, d3] }
  | _ => none }
def ChunkAnyOrderWrongFalsely : Prop := chunkAnyOrderRow.holds Try.pinned (OpenSpec.ofChange chunkAnyOrderWrong)

/- THE SECOND FORM. 'bulk': how many values and letters a reading holds, each counted each time it is reached (what is shared counts as often as it is met; a slice's spare places count too). A statement '..UptoSaid' is the law's where the arguments, and the package variables that the reading takes, are together of bulk at most 1048576: NARROWER than '..Said'. Prove '..Said' where nothing that the law and all that it calls make is longer than what came in: it says more and counts as full. Else prove '..UptoSaid'. A law counts once. -/
mutual
def uptoBulk {H : Type} : DataW H → Nat
  | .lit (.string bytes) => bytes.length + 1
  | .lit _ => 1
  | .nil => 1
  | .ptr d => uptoBulk d + 1
  | .slice elems spare => uptoBulkAll elems + uptoBulkAll spare + 1
  | .agg parts => uptoBulkAll parts + 1
  | .iface _ d => uptoBulk d + 1
  | .map entries => uptoBulkEntries entries + 1
  | .held _ => 1
def uptoBulkAll {H : Type} : List (DataW H) → Nat
  | [] => 0
  | d :: r => uptoBulk d + uptoBulkAll r
def uptoBulkEntries {H : Type} : List (Lit × DataW H) → Nat
  | [] => 0
  | x :: r => uptoBulkEntry x + uptoBulkEntries r
def uptoBulkEntry {H : Type} : Lit × DataW H → Nat
  | (.string bytes, d) => bytes.length + uptoBulk d + 1
  | (_, d) => uptoBulk d + 1
 end
def uptoSmall : (H : Type) → List (DataW H) → Bool := fun _ ds => decide (uptoBulkAll ds ≤ 1048576)
def OpenSpec.upto (s : _root_.Go.ChangeSpec) : _root_.Go.OpenSpec := { _root_.Go.OpenSpec.ofChange s with cond := some uptoSmall }

/-- 'sextonlaw12.ChunkSplits', WHERE WHAT IT READS IS OF BULK AT MOST 1048576: true; the input reads as it did. -/
def chunkSplitsUptoRow : OpenClaim := { program := "ytnlappoocffcpaa", sum := "a945613bc037de6bcf652e02579e4b102b8622a3bebca23706d9cec92f848b41", func := "sexton/sextonlaw12.ChunkSplits", spec := "chunkSplits", unfollowed := true, recurses := true, apart := false, narrowed := true }
def ChunkSplitsUptoSaid : Prop := chunkSplitsUptoRow.holds Try.pinned (OpenSpec.upto chunkSplitsSpec)

/-- 'sextonlaw12.ChunkHeaps', WHERE WHAT IT READS IS OF BULK AT MOST 1048576: true; the input reads as it did. -/
def chunkHeapsUptoRow : OpenClaim := { program := "ytnlappoocffcpaa", sum := "a945613bc037de6bcf652e02579e4b102b8622a3bebca23706d9cec92f848b41", func := "sexton/sextonlaw12.ChunkHeaps", spec := "chunkHeaps", unfollowed := true, recurses := true, apart := false, narrowed := true }
def ChunkHeapsUptoSaid : Prop := chunkHeapsUptoRow.holds Try.pinned (OpenSpec.upto chunkHeapsSpec)

/-- 'sextonlaw12.ChunkNil', WHERE WHAT IT READS IS OF BULK AT MOST 1048576: true; the input reads as it did. -/
def chunkNilUptoRow : OpenClaim := { program := "ytnlappoocffcpaa", sum := "a945613bc037de6bcf652e02579e4b102b8622a3bebca23706d9cec92f848b41", func := "sexton/sextonlaw12.ChunkNil", spec := "chunkNil", unfollowed := true, recurses := true, apart := false, narrowed := true }
def ChunkNilUptoSaid : Prop := chunkNilUptoRow.holds Try.pinned (OpenSpec.upto chunkNilSpec)

/-- 'sextonlaw12.ChunkBack', WHERE WHAT IT READS IS OF BULK AT MOST 1048576: true; the input reads as it did. -/
def chunkBackUptoRow : OpenClaim := { program := "ytnlappoocffcpaa", sum := "a945613bc037de6bcf652e02579e4b102b8622a3bebca23706d9cec92f848b41", func := "sexton/sextonlaw12.ChunkBack", spec := "chunkBack", unfollowed := true, recurses := true, apart := false, narrowed := true }
def ChunkBackUptoSaid : Prop := chunkBackUptoRow.holds Try.pinned (OpenSpec.upto chunkBackSpec)

/-- 'sextonlaw12.ChunkAnyOrder', WHERE WHAT IT READS IS OF BULK AT MOST 1048576: true; the input reads as it did. -/
def chunkAnyOrderUptoRow : OpenClaim := { program := "ytnlappoocffcpaa", sum := "a945613bc037de6bcf652e02579e4b102b8622a3bebca23706d9cec92f848b41", func := "sexton/sextonlaw12.ChunkAnyOrder", spec := "chunkAnyOrder", unfollowed := true, recurses := true, apart := false, narrowed := true }
def ChunkAnyOrderUptoSaid : Prop := chunkAnyOrderUptoRow.holds Try.pinned (OpenSpec.upto chunkAnyOrderSpec)

end Rows
end Go.Proofs.Ytnlappoocffcpaa
