/-
  NARROWER THAN 'FOR EVERY INPUT', by the rows' own cells (each row's printed sentence says how): EntryForms: laid · EntryReads: laid · EntryBack: laid · EntryRow: laid · EntryOthers: laid · EntryShort: laid.
  DERIVED. THE GIVEN ROWS OF THIS SEAT. 6 by the template 'for every input the law returns true; each argument reads behind the call as it read before'; 0 by the template 'total and deterministic' (their statements: YtoapjgkfggggmaaDoorTotals.lean).
  GIVEN WITH THE SEED: the statements are not yours to turn. If you find one false, say at which input.
  Laid BY PROGRAM, IN A SANDBOX (cutbox-rows.mjs): the forced cells as the released guide's own fill.sh prints them over the translation 8361ccb11c801f5d… (all of the seat's roots in one cut). By AI agents, Wed Nov 11 2026. No macro, syntax, notation, axiom, sorry.
-/
import Derived.Test.YtoapjgkfggggmaaDoorChecked
import GoSem.Claim
import GoSem.ClaimJoined
import GoSem.ClaimMapViews
import Derived.JoinedTies
import Derived.KernelRfl
namespace Go.Proofs.YtoapjgkfggggmaaDoor
/- THE CELL 'sum', in the pinned program and in every row, IS THE sha256 OF THE DUMP (.gsa) THAT YtoapjgkfggggmaaDoorProg.lean LOADS. Nothing in Lean hashes anything: it is a label: what it is worth is what the hold of that sum in a sandbox is worth. -/
noncomputable def Tryd.pinned : Pinned := { name := "ytoapjgkfggggmaadoor", sum := "8361ccb11c801f5db7028c68debc6baecf066d7ccd11d5a105015535db1418e9", checked := Tryd.checked }
namespace Rows
def none {H : Type} : Left H := { results := [], args := [] }

/- WHAT THE LISTED PACKAGE-LEVEL VARIABLES READ AS WHEN THE CALL BEGINS. Each datum BY PROGRAM (the guide's laid-datum.mjs) off the statement by which the dump's own 'gosem.cut.vars' lays the variable. In a bare row this is a premise. The card (YtoapjgkfggggmaaDoorCards.lean) ties it to the program's text. -/
def laid_sexton_octet_bounds {H : Type} : DataW H := .agg [.lit (.int .i64 0), .lit (.int .i64 256), .lit (.int .i64 65536), .lit (.int .i64 0), .lit (.int .i64 4294967296), .lit (.int .i64 0), .lit (.int .i64 281474976710656)]

/-- 'sextonlaw09.EntryForms': WHATEVER THE INPUT: true; the input reads as it did. -/
def entryFormsSpec : ChangeSpec := { name := "entryForms", fn := fun _ => fun
  | [d1, d2] => { results := [.lit (.bool true)], args := [d1, d2] }
  | _ => none }
def entryFormsRow : OpenClaim := { program := "ytoapjgkfggggmaadoor", sum := "8361ccb11c801f5db7028c68debc6baecf066d7ccd11d5a105015535db1418e9", func := "sexton/sextonlaw09.EntryForms", spec := "entryForms", unfollowed := true, recurses := true, named := ["sexton/octet.bounds"], apart := false, laid := [("sexton/octet.bounds", laid_sexton_octet_bounds)] }
def EntryFormsSaid : Prop := entryFormsRow.holds Tryd.pinned (OpenSpec.ofChange entryFormsSpec)

/-- ITS FALSE NEIGHBOUR: 'it returns false'. Refute it at one input. -/
def entryFormsWrong : ChangeSpec := { name := "entryForms", fn := fun _ => fun
  | [d1, d2] => { results := [.lit (.bool false)], args := [d1, d2] }
  | _ => none }
def EntryFormsWrongFalsely : Prop := entryFormsRow.holds Tryd.pinned (OpenSpec.ofChange entryFormsWrong)

/-- 'sextonlaw09.EntryReads': WHATEVER THE INPUT: true; the input reads as it did. -/
def entryReadsSpec : ChangeSpec := { name := "entryReads", fn := fun _ => fun
  | [d1, d2] => { results := [.lit (.bool true)], args := [d1, d2] }
  | _ => none }
def entryReadsRow : OpenClaim := { program := "ytoapjgkfggggmaadoor", sum := "8361ccb11c801f5db7028c68debc6baecf066d7ccd11d5a105015535db1418e9", func := "sexton/sextonlaw09.EntryReads", spec := "entryReads", unfollowed := true, recurses := true, named := ["sexton/octet.bounds"], apart := false, laid := [("sexton/octet.bounds", laid_sexton_octet_bounds)] }
def EntryReadsSaid : Prop := entryReadsRow.holds Tryd.pinned (OpenSpec.ofChange entryReadsSpec)

/-- ITS FALSE NEIGHBOUR: 'it returns false'. Refute it at one input. -/
def entryReadsWrong : ChangeSpec := { name := "entryReads", fn := fun _ => fun
  | [d1, d2] => { results := [.lit (.bool false)], args := [d1, d2] }
  | _ => none }
def EntryReadsWrongFalsely : Prop := entryReadsRow.holds Tryd.pinned (OpenSpec.ofChange entryReadsWrong)

/-- 'sextonlaw09.EntryBack': WHATEVER THE INPUT: true; the input reads as it did. -/
def entryBackSpec : ChangeSpec := { name := "entryBack", fn := fun _ => fun
  | [d1, d2, d3] => { results := [.lit (.bool true)], args := [d1, d2, d3] }
  | _ => none }
def entryBackRow : OpenClaim := { program := "ytoapjgkfggggmaadoor", sum := "8361ccb11c801f5db7028c68debc6baecf066d7ccd11d5a105015535db1418e9", func := "sexton/sextonlaw09.EntryBack", spec := "entryBack", unfollowed := true, recurses := true, named := ["sexton/octet.bounds"], apart := false, laid := [("sexton/octet.bounds", laid_sexton_octet_bounds)] }
def EntryBackSaid : Prop := entryBackRow.holds Tryd.pinned (OpenSpec.ofChange entryBackSpec)

/-- ITS FALSE NEIGHBOUR: 'it returns false'. Refute it at one input. -/
def entryBackWrong : ChangeSpec := { name := "entryBack", fn := fun _ => fun
  | [d1, d2, d3] => { results := [.lit (.bool false)], args := [d1, d2, d3] }
  | _ => none }
def EntryBackWrongFalsely : Prop := entryBackRow.holds Tryd.pinned (OpenSpec.ofChange entryBackWrong)

/-- 'sextonlaw09.EntryRow': WHATEVER THE INPUT: true; the input reads as it did. -/
def entryRowSpec : ChangeSpec := { name := "entryRow", fn := fun _ => fun
  | [d1, d2] => { results := [.lit (.bool true)], args := [d1, d2] }
  | _ => none }
def entryRowRow : OpenClaim := { program := "ytoapjgkfggggmaadoor", sum := "8361ccb11c801f5db7028c68debc6baecf066d7ccd11d5a105015535db1418e9", func := "sexton/sextonlaw09.EntryRow", spec := "entryRow", unfollowed := true, recurses := true, named := ["sexton/octet.bounds"], apart := false, laid := [("sexton/octet.bounds", laid_sexton_octet_bounds)] }
def EntryRowSaid : Prop := entryRowRow.holds Tryd.pinned (OpenSpec.ofChange entryRowSpec)

/-- ITS FALSE NEIGHBOUR: 'it returns false'. Refute it at one input. -/
def entryRowWrong : ChangeSpec := { name := "entryRow", fn := fun _ => fun
  | [d1, d2] => { results := [.lit (.bool false)], args := [d1, d2] }
  | _ => none }
def EntryRowWrongFalsely : Prop := entryRowRow.holds Tryd.pinned (OpenSpec.ofChange entryRowWrong)

/-- 'sextonlaw09.EntryOthers': WHATEVER THE INPUT: true; the input reads as it did. -/
def entryOthersSpec : ChangeSpec := { name := "entryOthers", fn := fun _ => fun
  | [d1, d2] => { results := [.lit (.bool true)], args := [d1, d2] }
  | _ => none }
def entryOthersRow : OpenClaim := { program := "ytoapjgkfggggmaadoor", sum := "8361ccb11c801f5db7028c68debc6baecf066d7ccd11d5a105015535db1418e9", func := "sexton/sextonlaw09.EntryOthers", spec := "entryOthers", unfollowed := true, recurses := true, named := ["sexton/octet.bounds"], apart := false, laid := [("sexton/octet.bounds", laid_sexton_octet_bounds)] }
def EntryOthersSaid : Prop := entryOthersRow.holds Tryd.pinned (OpenSpec.ofChange entryOthersSpec)

/-- ITS FALSE NEIGHBOUR: 'it returns false'. Refute it at one input. -/
def entryOthersWrong : ChangeSpec := { name := "entryOthers", fn := fun _ => fun
  | [d1, d2] => { results := [.lit (.bool false)], args := [d1, d2] }
  | _ => none }
def EntryOthersWrongFalsely : Prop := entryOthersRow.holds Tryd.pinned (OpenSpec.ofChange entryOthersWrong)

/-- 'sextonlaw09.EntryShort': WHATEVER THE INPUT: true; the input reads as it did. -/
def entryShortSpec : ChangeSpec := { name := "entryShort", fn := fun _ => fun
  | [d1, d2, d3, d4] => { results := [.lit (.bool true)], args := [d1, d2, d3, d4] }
  | _ => none }
def entryShortRow : OpenClaim := { program := "ytoapjgkfggggmaadoor", sum := "8361ccb11c801f5db7028c68debc6baecf066d7ccd11d5a105015535db1418e9", func := "sexton/sextonlaw09.EntryShort", spec := "entryShort", unfollowed := true, recurses := true, named := ["sexton/octet.bounds"], apart := false, laid := [("sexton/octet.bounds", laid_sexton_octet_bounds)] }
def EntryShortSaid : Prop := entryShortRow.holds Tryd.pinned (OpenSpec.ofChange entryShortSpec)

/-- ITS FALSE NEIGHBOUR: 'it returns false'. Refute it at one input. -/
def entryShortWrong : ChangeSpec := { name := "entryShort", fn := fun _ => fun
  | [d1, d2, d3, d4] => { results := [.lit (.bool false)], args := [d1, d2, d3, d4] }
  | _ => none }
def EntryShortWrongFalsely : Prop := entryShortRow.holds Tryd.pinned (OpenSpec.ofChange entryShortWrong)

/- THE SECOND FORM. 'bulk': how many values and letters a reading holds, each counted each time it is reached (what is shared counts as often as it is met; a slice's spare places count too). A statement '..UptoSaid' is the law's where the arguments, and the package variables that the reading takes, are together of bulk at most 1048576: NARROWER than '..Said'. Prove '..Said' where nothing that the law and all that it calls make is longer than what came in: it says more and counts as full. Else prove '..UptoSaid'. A law counts once. -/
mutual
def uptoBulk {H : Type} : DataW H → Nat
  | .lit (.string bytes) => bytes.length + 1
  | .lit _ => 1
  | .nil => 1
  | .ptr d => uptoBulk d + 1
  | .slice elems spare => uptoBulkAll elems + uptoBulkAll spare + 1
  | .agg parts => uptoBulkAll parts + 1
  | .iface _ d => uptoBulk d + 1
  | .map entries => uptoBulkEntries entries + 1
  | .held _ => 1
def uptoBulkAll {H : Type} : List (DataW H) → Nat
  | [] => 0
  | d :: r => uptoBulk d + uptoBulkAll r
def uptoBulkEntries {H : Type} : List (Lit × DataW H) → Nat
  | [] => 0
  | x :: r => uptoBulkEntry x + uptoBulkEntries r
def uptoBulkEntry {H : Type} : Lit × DataW H → Nat
  | (.string bytes, d) => bytes.length + uptoBulk d + 1
  | (_, d) => uptoBulk d + 1
 end
def uptoSmall : (H : Type) → List (DataW H) → Bool := fun _ ds => decide (uptoBulkAll ds ≤ 1048576)
def OpenSpec.upto (s : _root_.Go.ChangeSpec) : _root_.Go.OpenSpec := { _root_.Go.OpenSpec.ofChange s with cond := some uptoSmall }

/-- 'sextonlaw09.EntryForms', WHERE WHAT IT READS IS OF BULK AT MOST 1048576: true; the input reads as it did. -/
def entryFormsUptoRow : OpenClaim := { program := "ytoapjgkfggggmaadoor", sum := "8361ccb11c801f5db7028c68debc6baecf066d7ccd11d5a105015535db1418e9", func := "sexton/sextonlaw09.EntryForms", spec := "entryForms", unfollowed := true, recurses := true, named := ["sexton/octet.bounds"], apart := false, laid := [("sexton/octet.bounds", laid_sexton_octet_bounds)], narrowed := true }
def EntryFormsUptoSaid : Prop := entryFormsUptoRow.holds Tryd.pinned (OpenSpec.upto entryFormsSpec)

/-- 'sextonlaw09.EntryReads', WHERE WHAT IT READS IS OF BULK AT MOST 1048576: true; the input reads as it did. -/
def entryReadsUptoRow : OpenClaim := { program := "ytoapjgkfggggmaadoor", sum := "8361ccb11c801f5db7028c68debc6baecf066d7ccd11d5a105015535db1418e9", func := "sexton/sextonlaw09.EntryReads", spec := "entryReads", unfollowed := true, recurses := true, named := ["sexton/octet.bounds"], apart := false, laid := [("sexton/octet.bounds", laid_sexton_octet_bounds)], narrowed := true }
def EntryReadsUptoSaid : Prop := entryReadsUptoRow.holds Tryd.pinned (OpenSpec.upto entryReadsSpec)

/-- 'sextonlaw09.EntryBack', WHERE WHAT IT READS IS OF BULK AT MOST 1048576: true; the input reads as it did. -/
def entryBackUptoRow : OpenClaim := { program := "ytoapjgkfggggmaadoor", sum := "8361ccb11c801f5db7028c68debc6baecf066d7ccd11d5a105015535db1418e9", func := "sexton/sextonlaw09.EntryBack", spec := "entryBack", unfollowed := true, recurses := true, named := ["sexton/octet.bounds"], apart := false, laid := [("sexton/octet.bounds", laid_sexton_octet_bounds)], narrowed := true }
def EntryBackUptoSaid : Prop := entryBackUptoRow.holds Tryd.pinned (OpenSpec.upto entryBackSpec)

/-- 'sextonlaw09.EntryRow', WHERE WHAT IT READS IS OF BULK AT MOST 1048576: true; the input reads as it did. -/
def entryRowUptoRow : OpenClaim := { program := "ytoapjgkfggggmaadoor", sum := "8361ccb11c801f5db7028c68debc6baecf066d7ccd11d5a105015535db1418e9", func := "sexton/sextonlaw09.EntryRow", spec := "entryRow", unfollowed := true, recurses := true, named := ["sexton/octet.bounds"], apart := false, laid := [("sexton/octet.bounds", laid_sexton_octet_bounds)], narrowed := true }
def EntryRowUptoSaid : Prop := entryRowUptoRow.holds Tryd.pinned (OpenSpec.upto entryRowSpec)

/-- 'sextonlaw09.EntryOthers', WHERE WHAT IT READS IS OF BULK AT MOST 1048576: true; the input reads as it did. -/
def entryOthersUptoRow : OpenClaim := { program := "ytoapjgkfggggmaadoor", sum := "8361ccb11c801f5db7028c68debc6baecf066d7ccd11d5a105015535db1418e9", func := "sexton/sextonlaw09.EntryOthers", spec := "entryOthers", unfollowed := true, recurses := true, named := ["sexton/octet.bounds"], apart := false, laid := [("sexton/octet.bounds", laid_sexton_octet_bounds)], narrowed := true }
def EntryOthersUptoSaid : Prop := entryOthersUptoRow.holds Tryd.pinned (OpenSpec.upto entryOthersSpec)

/-- 'sextonlaw09.EntryShort', WHERE WHAT IT READS IS OF BULK AT MOST 1048576: true; the input reads as it did. -/
def entryShortUptoRow : OpenClaim := { program := "ytoapjgkfggggmaadoor", sum := "8361ccb11c801f5db7028c68debc6baecf066d7ccd11d5a105015535db1418e9", func := "sexton/sextonlaw09.EntryShort", spec := "entryShort", unfollowed := true, recurses := true, named := ["sexton/octet.bounds"], apart := false, laid := [("sexton/octet.bounds", laid_sexton_octet_bounds)], narrowed := true }
def EntryShortUptoSaid : Prop := entryShortUptoRow.holds Tryd.pinned (OpenSpec.upto entryShortSpec)

end Rows
end Go.Proofs.YtoapjgkfggggmaaDoor
