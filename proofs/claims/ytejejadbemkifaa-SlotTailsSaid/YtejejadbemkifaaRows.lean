/-
  No cell of these rows narrows 'for every input' (looked for: loops, veiled, ifaces, maps, wideKeys, modest, calm, conditions, laid).
  DERIVED. THE GIVEN ROWS OF THIS SEAT. 2 by the template 'for every input the law returns true; each argument reads behind the call as it read before'; 0 by the template 'total and deterministic' (their statements: YtejejadbemkifaaTotals.lean).
  GIVEN WITH THE SEED: the statements are not yours to turn. If you find one false, say at which input.
  Laid BY PROGRAM, IN A SANDBOX (cutbox-rows.mjs): the forced cells as the released guide's own fill.sh prints them over the translation b63f64925e38c72f… (all of the seat's roots in one cut). By AI agents, Wed Nov 11 2026. No macro, syntax, notation, axiom, sorry.
-/
import Derived.Test.YtejejadbemkifaaChecked
import GoSem.Claim
import GoSem.ClaimJoined
import GoSem.ClaimMapViews
import Derived.JoinedTies
import Derived.KernelRfl
namespace Go.Proofs.Ytejejadbemkifaa
/- THE CELL 'sum', in the pinned program and in every row, IS THE sha256 OF THE DUMP (.gsa) THAT YtejejadbemkifaaProg.lean LOADS. Nothing in Lean hashes anything: it is a label: what it is worth is what the hold of that sum in a sandbox is worth. -/
noncomputable def Try.pinned : Pinned := { name := "ytejejadbemkifaa", sum := "b63f64925e38c72f351fa9e92ca20ed1fdce9f9cbcaf25fcc92a1e036da0a02e", checked := Try.checked }
namespace Rows
def none {H : Type} : Left H := { results := [], args := [] }

/-- 'sextonlaw10.SlotTails': WHATEVER THE INPUT: true; the input reads as it did. -/
def slotTailsSpec : ChangeSpec := { name := "slotTails", fn := fun _ => fun
  | [d1, d2, d3] => { results := [.lit (.bool true)], args := [d1, d2, d3] }
  | _ => none }
def slotTailsRow : OpenClaim := { program := "ytejejadbemkifaa", sum := "b63f64925e38c72f351fa9e92ca20ed1fdce9f9cbcaf25fcc92a1e036da0a02e", func := "sexton/sextonlaw10.SlotTails", spec := "slotTails", unfollowed := true, recurses := true, apart := false }
def SlotTailsSaid : Prop := slotTailsRow.holds Try.pinned (OpenSpec.ofChange slotTailsSpec)

/-- ITS FALSE NEIGHBOUR: 'it returns false'. Refute it at one input. -/
def slotTailsWrong : ChangeSpec := { name := "slotTails", fn := fun _ => fun
  | [d1, d2, d3] => { results := [.lit (.bool false)], args := [d1, d2, d3] }
  | _ => none }
def SlotTailsWrongFalsely : Prop := slotTailsRow.holds Try.pinned (OpenSpec.ofChange slotTailsWrong)

/-- 'sextonlaw10.SlotWhere': WHATEVER THE INPUT: true; the input reads as it did. -/
def slotWhereSpec : ChangeSpec := { name := "slotWhere", fn := fun _ => fun
  | [d1, d2, d3] => { results := [.lit (.bool true)], args := [d1, d2, d3] }
  | _ => none }
def slotWhereRow : OpenClaim := { program := "ytejejadbemkifaa", sum := "b63f64925e38c72f351fa9e92ca20ed1fdce9f9cbcaf25fcc92a1e036da0a02e", func := "sexton/sextonlaw10.SlotWhere", spec := "slotWhere", unfollowed := true, recurses := true, apart := false }
def SlotWhereSaid : Prop := slotWhereRow.holds Try.pinned (OpenSpec.ofChange slotWhereSpec)

/-- ITS FALSE NEIGHBOUR: 'it returns false'. Refute it at one input. -/
def slotWhereWrong : ChangeSpec := { name := "slotWhere", fn := fun _ => fun
  | [d1, d2, d3] => { results := [.lit (.bool false)], args := [d1, d2, d3] }
  | _ => none }
def SlotWhereWrongFalsely : Prop := slotWhereRow.holds Try.pinned (OpenSpec.ofChange slotWhereWrong)

/- THE SECOND FORM. 'bulk': how many values and letters a reading holds, each counted each time it is reached (what is shared counts as often as it is met; a slice's spare places count too). A statement '..UptoSaid' is the law's where the arguments, and the package variables that the reading takes, are together of bulk at most 1048576: NARROWER than '..Said'. Prove '..Said' where nothing that the law and all that it calls make is longer than what came in: it says more and counts as full. Else prove '..UptoSaid'. A law counts once. -/
mutual
def uptoBulk {H : Type} : DataW H → Nat
  | .lit (.string bytes) => bytes.length + 1
  | .lit _ => 1
  | .nil => 1
  | .ptr d => uptoBulk d + 1
  | .slice elems spare => uptoBulkAll elems + uptoBulkAll spare + 1
  | .agg parts => uptoBulkAll parts + 1
  | .iface _ d => uptoBulk d + 1
  | .map entries => uptoBulkEntries entries + 1
  | .held _ => 1
def uptoBulkAll {H : Type} : List (DataW H) → Nat
  | [] => 0
  | d :: r => uptoBulk d + uptoBulkAll r
def uptoBulkEntries {H : Type} : List (Lit × DataW H) → Nat
  | [] => 0
  | x :: r => uptoBulkEntry x + uptoBulkEntries r
def uptoBulkEntry {H : Type} : Lit × DataW H → Nat
  | (.string bytes, d) => bytes.length + uptoBulk d + 1
  | (_, d) => uptoBulk d + 1
 end
def uptoSmall : (H : Type) → List (DataW H) → Bool := fun _ ds => decide (uptoBulkAll ds ≤ 1048576)
def OpenSpec.upto (s : _root_.Go.ChangeSpec) : _root_.Go.OpenSpec := { _root_.Go.OpenSpec.ofChange s with cond := some uptoSmall }

/-- 'sextonlaw10.SlotTails', WHERE WHAT IT READS IS OF BULK AT MOST 1048576: true; the input reads as it did. -/
def slotTailsUptoRow : OpenClaim := { program := "ytejejadbemkifaa", sum := "b63f64925e38c72f351fa9e92ca20ed1fdce9f9cbcaf25fcc92a1e036da0a02e", func := "sexton/sextonlaw10.SlotTails", spec := "slotTails", unfollowed := true, recurses := true, apart := false, narrowed := true }
def SlotTailsUptoSaid : Prop := slotTailsUptoRow.holds Try.pinned (OpenSpec.upto slotTailsSpec)

/-- 'sextonlaw10.SlotWhere', WHERE WHAT IT READS IS OF BULK AT MOST 1048576: true; the input reads as it did. -/
def slotWhereUptoRow : OpenClaim := { program := "ytejejadbemkifaa", sum := "b63f64925e38c72f351fa9e92ca20ed1fdce9f9cbcaf25fcc92a1e036da0a02e", func := "sexton/sextonlaw10.SlotWhere", spec := "slotWhere", unfollowed := true, recurses := true, apart := false, narrowed := true }
def SlotWhereUptoSaid : Prop := slotWhereUptoRow.holds Try.pinned (OpenSpec.upto slotWhereSpec)

end Rows
end Go.Proofs.Ytejejadbemkifaa
