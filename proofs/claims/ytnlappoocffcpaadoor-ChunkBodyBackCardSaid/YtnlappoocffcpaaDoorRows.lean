/-
  NARROWER THAN 'FOR EVERY INPUT', by the rows' own cells (each row's printed sentence says how): ChunkBodies: laid · ChunkBodyBack: laid.
  DERIVED. THE GIVEN ROWS OF THIS SEAT. 2 by the template 'for every input the law returns true; each argument reads behind the call as it read before'; 0 by the template 'total and deterministic' (their statements: YtnlappoocffcpaaDoorTotals.lean).
  GIVEN WITH THE SEED: the statements are not yours to turn. If you find one false, say at which input.
  Laid BY PROGRAM, IN A SANDBOX (cutbox-rows.mjs): the forced cells as the released guide's own fill.sh prints them over the translation bd801d176f233460… (all of the seat's roots in one cut). By AI agents, Wed Nov 11 2026. No macro, syntax, notation, axiom, sorry.
-/
import Derived.Test.YtnlappoocffcpaaDoorChecked
import GoSem.Claim
import GoSem.ClaimJoined
import GoSem.ClaimMapViews
import Derived.JoinedTies
import Derived.KernelRfl
namespace Go.Proofs.YtnlappoocffcpaaDoor
/- THE CELL 'sum', in the pinned program and in every row, IS THE sha256 OF THE DUMP (.gsa) THAT YtnlappoocffcpaaDoorProg.lean LOADS. Nothing in Lean hashes anything: it is a label: what it is worth is what the hold of that sum in a sandbox is worth. -/
noncomputable def Tryd.pinned : Pinned := { name := "ytnlappoocffcpaadoor", sum := "bd801d176f233460f41230a877edb71232774b5aa111db6744c340ea69232182", checked := Tryd.checked }
namespace Rows
def none {H : Type} : Left H := { results := [], args := [] }

/- WHAT THE LISTED PACKAGE-LEVEL VARIABLES READ AS WHEN THE CALL BEGINS. Each datum BY PROGRAM (the guide's laid-datum.mjs) off the statement by which the dump's own 'gosem.cut.vars' lays the variable. In a bare row this is a premise. The card (YtnlappoocffcpaaDoorCards.lean) ties it to the program's text. -/
def laid_sexton_octet_bounds {H : Type} : DataW H := .agg [.lit (.int .i64 0), .lit (.int .i64 256), .lit (.int .i64 65536), .lit (.int .i64 0), .lit (.int .i64 4294967296), .lit (.int .i64 0), .lit (.int .i64 281474976710656)]

/-- 'sextonlaw12.ChunkBodies': WHATEVER THE INPUT: true; the input reads as it did. -/
def chunkBodiesSpec : ChangeSpec := { name := "chunkBodies", fn := fun _ => fun
  | [d1, d2, d3] => { results := [.lit (.bool true)], args := [d1, d2, d3] }
  | _ => none }
def chunkBodiesRow : OpenClaim := { program := "ytnlappoocffcpaadoor", sum := "bd801d176f233460f41230a877edb71232774b5aa111db6744c340ea69232182", func := "sexton/sextonlaw12.ChunkBodies", spec := "chunkBodies", named := ["sexton/octet.bounds"], apart := false, laid := [("sexton/octet.bounds", laid_sexton_octet_bounds)] }
def ChunkBodiesSaid : Prop := chunkBodiesRow.holds Tryd.pinned (OpenSpec.ofChange chunkBodiesSpec)

/-- ITS FALSE NEIGHBOUR: 'it returns false'. Refute it at one input. -/
def chunkBodiesWrong : ChangeSpec := { name := "chunkBodies", fn := fun _ => fun
  | [d1, d2, d3] => { results := [.lit (.bool false)], args := [d1, d2, d3] }
  | _ => none }
def ChunkBodiesWrongFalsely : Prop := chunkBodiesRow.holds Tryd.pinned (OpenSpec.ofChange chunkBodiesWrong)

/-- 'sextonlaw12.ChunkBodyBack': WHATEVER THE INPUT: true; the input reads as it did. -/
def chunkBodyBackSpec : ChangeSpec := { name := "chunkBodyBack", fn := fun _ => fun
  | [d1, d2, d3] => { results := [.lit (.bool true)], args := [d1, d2, d3] }
  | _ => none }
def chunkBodyBackRow : OpenClaim := { program := "ytnlappoocffcpaadoor", sum := "bd801d176f233460f41230a877edb71232774b5aa111db6744c340ea69232182", func := "sexton/sextonlaw12.ChunkBodyBack", spec := "chunkBodyBack", unfollowed := true, recurses := true, named := ["sexton/octet.bounds"], apart := false, laid := [("sexton/octet.bounds", laid_sexton_octet_bounds)] }
def ChunkBodyBackSaid : Prop := chunkBodyBackRow.holds Tryd.pinned (OpenSpec.ofChange chunkBodyBackSpec)

/-- ITS FALSE NEIGHBOUR: 'it returns false'. Refute it at one input. -/
def chunkBodyBackWrong : ChangeSpec := { name := "chunkBodyBack", fn := fun _ => fun
  | [d1, d2, d3] => { results := [.lit (.bool false)], args := [d1, d2, d3] }
  | _ => none }
def ChunkBodyBackWrongFalsely : Prop := chunkBodyBackRow.holds Tryd.pinned (OpenSpec.ofChange chunkBodyBackWrong)

/- THE SECOND FORM. 'bulk': how many values and letters a reading holds, each counted each time it is reached (what is shared counts as often as it is met; a slice's spare places count too). A statement '..UptoSaid' is the law's where the arguments, and the package variables that the reading takes, are together of bulk at most 1048576: NARROWER than '..Said'. Prove '..Said' where nothing that the law and all that it calls make is longer than what came in: it says more and counts as full. Else prove '..UptoSaid'. A law counts once. -/
mutual
def uptoBulk {H : Type} : DataW H → Nat
  | .lit (.string bytes) => bytes.length + 1
  | .lit _ => 1
  | .nil => 1
  | .ptr d => uptoBulk d + 1
  | .slice elems spare => uptoBulkAll elems + uptoBulkAll spare + 1
  | .agg parts => uptoBulkAll parts + 1
  | .iface _ d => uptoBulk d + 1
  | .map entries => uptoBulkEntries entries + 1
  | .held _ => 1
def uptoBulkAll {H : Type} : List (DataW H) → Nat
  | [] => 0
  | d :: r => uptoBulk d + uptoBulkAll r
def uptoBulkEntries {H : Type} : List (Lit × DataW H) → Nat
  | [] => 0
  | x :: r => uptoBulkEntry x + uptoBulkEntries r
def uptoBulkEntry {H : Type} : Lit × DataW H → Nat
  | (.string bytes, d) => bytes.length + uptoBulk d + 1
  | (_, d) => uptoBulk d + 1
 end
def uptoSmall : (H : Type) → List (DataW H) → Bool := fun _ ds => decide (uptoBulkAll ds ≤ 1048576)
def OpenSpec.upto (s : _root_.Go.ChangeSpec) : _root_.Go.OpenSpec := { _root_.Go.OpenSpec.ofChange s with cond := some uptoSmall }

/-- 'sextonlaw12.ChunkBodies', WHERE WHAT IT READS IS OF BULK AT MOST 1048576: true; the input reads as it did. -/
def chunkBodiesUptoRow : OpenClaim := { program := "ytnlappoocffcpaadoor", sum := "bd801d176f233460f41230a877edb71232774b5aa111db6744c340ea69232182", func := "sexton/sextonlaw12.ChunkBodies", spec := "chunkBodies", named := ["sexton/octet.bounds"], apart := false, laid := [("sexton/octet.bounds", laid_sexton_octet_bounds)], narrowed := true }
def ChunkBodiesUptoSaid : Prop := chunkBodiesUptoRow.holds Tryd.pinned (OpenSpec.upto chunkBodiesSpec)

/-- 'sextonlaw12.ChunkBodyBack', WHERE WHAT IT READS IS OF BULK AT MOST 1048576: true; the input reads as it did. -/
def chunkBodyBackUptoRow : OpenClaim := { program := "ytnlappoocffcpaadoor", sum := "bd801d176f233460f41230a877edb71232774b5aa111db6744c340ea69232182", func := "sexton/sextonlaw12.ChunkBodyBack", spec := "chunkBodyBack", unfollowed := true, recurses := true, named := ["sexton/octet.bounds"], apart := false, laid := [("sexton/octet.bounds", laid_sexton_octet_bounds)], narrowed := true }
def ChunkBodyBackUptoSaid : Prop := chunkBodyBackUptoRow.holds Tryd.pinned (OpenSpec.upto chunkBodyBackSpec)

end Rows
end Go.Proofs.YtnlappoocffcpaaDoor
