/-
  NARROWER THAN 'FOR EVERY INPUT', by the rows' own cells (each row's printed sentence says how): SlotForms: laid · SlotBack: laid.
  DERIVED. THE GIVEN ROWS OF THIS SEAT. 2 by the template 'for every input the law returns true; each argument reads behind the call as it read before'; 0 by the template 'total and deterministic' (their statements: YtejejadbemkifaaDoorTotals.lean).
  GIVEN WITH THE SEED: the statements are not yours to turn. If you find one false, say at which input.
  Laid BY PROGRAM, IN A SANDBOX (cutbox-rows.mjs): the forced cells as the released guide's own fill.sh prints them over the translation 68951fc3c54a868b… (all of the seat's roots in one cut). By AI agents, Wed Nov 11 2026. No macro, syntax, notation, axiom, sorry.
-/
import Derived.Test.YtejejadbemkifaaDoorChecked
import GoSem.Claim
import GoSem.ClaimJoined
import GoSem.ClaimMapViews
import Derived.JoinedTies
import Derived.KernelRfl
namespace Go.Proofs.YtejejadbemkifaaDoor
/- THE CELL 'sum', in the pinned program and in every row, IS THE sha256 OF THE DUMP (.gsa) THAT YtejejadbemkifaaDoorProg.lean LOADS. Nothing in Lean hashes anything: it is a label: what it is worth is what the hold of that sum in a sandbox is worth. -/
noncomputable def Tryd.pinned : Pinned := { name := "ytejejadbemkifaadoor", sum := "68951fc3c54a868be82fa505a7b79672044cd0315a48482c85ba75373884a506", checked := Tryd.checked }
namespace Rows
def none {H : Type} : Left H := { results := [], args := [] }

/- WHAT THE LISTED PACKAGE-LEVEL VARIABLES READ AS WHEN THE CALL BEGINS. Each datum BY PROGRAM (the guide's laid-datum.mjs) off the statement by which the dump's own 'gosem.cut.vars' lays the variable. In a bare row this is a premise. The card (YtejejadbemkifaaDoorCards.lean) ties it to the program's text. -/
def laid_sexton_octet_bounds {H : Type} : DataW H := .agg [.lit (.int .i64 0), .lit (.int .i64 256), .lit (.int .i64 65536), .lit (.int .i64 0), .lit (.int .i64 4294967296), .lit (.int .i64 0), .lit (.int .i64 281474976710656)]
def laid_sexton_slot_widths {H : Type} : DataW H := .agg [.lit (.int .i64 6), .lit (.int .i64 1), .lit (.int .i64 1)]

/-- 'sextonlaw10.SlotForms': WHATEVER THE INPUT: true; the input reads as it did. -/
def slotFormsSpec : ChangeSpec := { name := "slotForms", fn := fun _ => fun
  | [d1, d2, d3] => { results := [.lit (.bool true)], args := [d1, d2, d3] }
  | _ => none }
def slotFormsRow : OpenClaim := { program := "ytejejadbemkifaadoor", sum := "68951fc3c54a868be82fa505a7b79672044cd0315a48482c85ba75373884a506", func := "sexton/sextonlaw10.SlotForms", spec := "slotForms", unfollowed := true, recurses := true, named := ["sexton/slot.widths", "sexton/octet.bounds"], apart := false, laid := [("sexton/octet.bounds", laid_sexton_octet_bounds), ("sexton/slot.widths", laid_sexton_slot_widths)] }
def SlotFormsSaid : Prop := slotFormsRow.holds Tryd.pinned (OpenSpec.ofChange slotFormsSpec)

/-- ITS FALSE NEIGHBOUR: 'it returns false'. Refute it at one input. -/
def slotFormsWrong : ChangeSpec := { name := "slotForms", fn := fun _ => fun
  | [d1, d2, d3] => { results := [.lit (.bool false)], args := [d1, d2, d3] }
  | _ => none }
def SlotFormsWrongFalsely : Prop := slotFormsRow.holds Tryd.pinned (OpenSpec.ofChange slotFormsWrong)

/-- 'sextonlaw10.SlotBack': WHATEVER THE INPUT: true; the input reads as it did. -/
def slotBackSpec : ChangeSpec := { name := "slotBack", fn := fun _ => fun
  | [d1, d2, d3] => { results := [.lit (.bool true)], args := [d1, d2, d3] }
  | _ => none }
def slotBackRow : OpenClaim := { program := "ytejejadbemkifaadoor", sum := "68951fc3c54a868be82fa505a7b79672044cd0315a48482c85ba75373884a506", func := "sexton/sextonlaw10.SlotBack", spec := "slotBack", unfollowed := true, recurses := true, named := ["sexton/slot.widths", "sexton/octet.bounds"], apart := false, laid := [("sexton/octet.bounds", laid_sexton_octet_bounds), ("sexton/slot.widths", laid_sexton_slot_widths)] }
def SlotBackSaid : Prop := slotBackRow.holds Tryd.pinned (OpenSpec.ofChange slotBackSpec)

/-- ITS FALSE NEIGHBOUR: 'it returns false'. Refute it at one input. -/
def slotBackWrong : ChangeSpec := { name := "slotBack", fn := fun _ => fun
  | [d1, d2, d3] => { results := [.lit (.bool false)], args := [d1, d2, d3] }
  | _ => none }
def SlotBackWrongFalsely : Prop := slotBackRow.holds Tryd.pinned (OpenSpec.ofChange slotBackWrong)

/- THE SECOND FORM. 'bulk': how many values and letters a reading holds, each counted each time it is reached (what is shared counts as often as it is met; a slice's spare places count too). A statement '..UptoSaid' is the law's where the arguments, and the package variables that the reading takes, are together of bulk at most 1048576: NARROWER than '..Said'. Prove '..Said' where nothing that the law and all that it calls make is longer than what came in: it says more and counts as full. Else prove '..UptoSaid'. A law counts once. -/
mutual
def uptoBulk {H : Type} : DataW H → Nat
  | .lit (.string bytes) => bytes.length + 1
  | .lit _ => 1
  | .nil => 1
  | .ptr d => uptoBulk d + 1
  | .slice elems spare => uptoBulkAll elems + uptoBulkAll spare + 1
  | .agg parts => uptoBulkAll parts + 1
  | .iface _ d => uptoBulk d + 1
  | .map entries => uptoBulkEntries entries + 1
  | .held _ => 1
def uptoBulkAll {H : Type} : List (DataW H) → Nat
  | [] => 0
  | d :: r => uptoBulk d + uptoBulkAll r
def uptoBulkEntries {H : Type} : List (Lit × DataW H) → Nat
  | [] => 0
  | x :: r => uptoBulkEntry x + uptoBulkEntries r
def uptoBulkEntry {H : Type} : Lit × DataW H → Nat
  | (.string bytes, d) => bytes.length + uptoBulk d + 1
  | (_, d) => uptoBulk d + 1
 end
def uptoSmall : (H : Type) → List (DataW H) → Bool := fun _ ds => decide (uptoBulkAll ds ≤ 1048576)
def OpenSpec.upto (s : _root_.Go.ChangeSpec) : _root_.Go.OpenSpec := { _root_.Go.OpenSpec.ofChange s with cond := some uptoSmall }

/-- 'sextonlaw10.SlotForms', WHERE WHAT IT READS IS OF BULK AT MOST 1048576: true; the input reads as it did. -/
def slotFormsUptoRow : OpenClaim := { program := "ytejejadbemkifaadoor", sum := "68951fc3c54a868be82fa505a7b79672044cd0315a48482c85ba75373884a506", func := "sexton/sextonlaw10.SlotForms", spec := "slotForms", unfollowed := true, recurses := true, named := ["sexton/slot.widths", "sexton/octet.bounds"], apart := false, laid := [("sexton/octet.bounds", laid_sexton_octet_bounds), ("sexton/slot.widths", laid_sexton_slot_widths)], narrowed := true }
def SlotFormsUptoSaid : Prop := slotFormsUptoRow.holds Tryd.pinned (OpenSpec.upto slotFormsSpec)

/-- 'sextonlaw10.SlotBack', WHERE WHAT IT READS IS OF BULK AT MOST 1048576: true; the input reads as it did. -/
def slotBackUptoRow : OpenClaim := { program := "ytejejadbemkifaadoor", sum := "68951fc3c54a868be82fa505a7b79672044cd0315a48482c85ba75373884a506", func := "sexton/sextonlaw10.SlotBack", spec := "slotBack", unfollowed := true, recurses := true, named := ["sexton/slot.widths", "sexton/octet.bounds"], apart := false, laid := [("sexton/octet.bounds", laid_sexton_octet_bounds), ("sexton/slot.widths", laid_sexton_slot_widths)], narrowed := true }
def SlotBackUptoSaid : Prop := slotBackUptoRow.holds Tryd.pinned (OpenSpec.upto slotBackSpec)

end Rows
end Go.Proofs.YtejejadbemkifaaDoor
