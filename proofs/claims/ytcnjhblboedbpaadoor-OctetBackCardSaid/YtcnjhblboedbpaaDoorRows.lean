/-
  NARROWER THAN 'FOR EVERY INPUT', by the rows' own cells (each row's printed sentence says how): OctetPuts: laid · OctetGets: laid · OctetBack: laid · OctetTextBack: laid · OctetLowest: laid · OctetShort: laid.
  DERIVED. THE GIVEN ROWS OF THIS SEAT. 6 by the template 'for every input the law returns true; each argument reads behind the call as it read before'; 0 by the template 'total and deterministic' (their statements: YtcnjhblboedbpaaDoorTotals.lean).
  GIVEN WITH THE SEED: the statements are not yours to turn. If you find one false, say at which input.
  Laid BY PROGRAM, IN A SANDBOX (cutbox-rows.mjs): the forced cells as the released guide's own fill.sh prints them over the translation 5029e21cc5586d61… (all of the seat's roots in one cut). By AI agents, Wed Nov 11 2026. No macro, syntax, notation, axiom, sorry.
-/
import Derived.Test.YtcnjhblboedbpaaDoorChecked
import GoSem.Claim
import GoSem.ClaimJoined
import GoSem.ClaimMapViews
import Derived.JoinedTies
import Derived.KernelRfl
namespace Go.Proofs.YtcnjhblboedbpaaDoor
/- THE CELL 'sum', in the pinned program and in every row, IS THE sha256 OF THE DUMP (.gsa) THAT YtcnjhblboedbpaaDoorProg.lean LOADS. Nothing in Lean hashes anything: it is a label: what it is worth is what the hold of that sum in a sandbox is worth. -/
noncomputable def Tryd.pinned : Pinned := { name := "ytcnjhblboedbpaadoor", sum := "5029e21cc5586d61fe690531727aca1821c3c5f9801aed7b9801c5e818a27beb", checked := Tryd.checked }
namespace Rows
def none {H : Type} : Left H := { results := [], args := [] }

/- WHAT THE LISTED PACKAGE-LEVEL VARIABLES READ AS WHEN THE CALL BEGINS. Each datum BY PROGRAM (the guide's laid-datum.mjs) off the statement by which the dump's own 'gosem.cut.vars' lays the variable. In a bare row this is a premise. The card (YtcnjhblboedbpaaDoorCards.lean) ties it to the program's text. -/
def laid_sexton_octet_bounds {H : Type} : DataW H := .agg [.lit (.int .i64 0), .lit (.int .i64 256), .lit (.int .i64 65536), .lit (.int .i64 0), .lit (.int .i64 4294967296), .lit (.int .i64 0), .lit (.int .i64 281474976710656)]

/-- 'sextonlaw01.OctetPuts': WHATEVER THE INPUT: true; the input reads as it did. -/
def octetPutsSpec : ChangeSpec := { name := "octetPuts", fn := fun _ => fun
  | [d1, d2] => { results := [.lit (.bool true)], args := [d1, d2] }
  | _ => none }
def octetPutsRow : OpenClaim := { program := "ytcnjhblboedbpaadoor", sum := "5029e21cc5586d61fe690531727aca1821c3c5f9801aed7b9801c5e818a27beb", func := "sexton/sextonlaw01.OctetPuts", spec := "octetPuts", named := ["sexton/octet.bounds"], apart := false, laid := [("sexton/octet.bounds", laid_sexton_octet_bounds)] }
def OctetPutsSaid : Prop := octetPutsRow.holds Tryd.pinned (OpenSpec.ofChange octetPutsSpec)

/-- ITS FALSE NEIGHBOUR: 'it returns false'. Refute it at one input. -/
def octetPutsWrong : ChangeSpec := { name := "octetPuts", fn := fun _ => fun
  | [d1, d2] => { results := [.lit (.bool false)], args := [d1, d2] }
  | _ => none }
def OctetPutsWrongFalsely : Prop := octetPutsRow.holds Tryd.pinned (OpenSpec.ofChange octetPutsWrong)

/-- 'sextonlaw01.OctetGets': WHATEVER THE INPUT: true; the input reads as it did. -/
def octetGetsSpec : ChangeSpec := { name := "octetGets", fn := fun _ => fun
  | [d1, d2, d3] => { results := [.lit (.bool true)], args := [d1, d2, d3] }
  | _ => none }
def octetGetsRow : OpenClaim := { program := "ytcnjhblboedbpaadoor", sum := "5029e21cc5586d61fe690531727aca1821c3c5f9801aed7b9801c5e818a27beb", func := "sexton/sextonlaw01.OctetGets", spec := "octetGets", named := ["sexton/octet.bounds"], apart := false, laid := [("sexton/octet.bounds", laid_sexton_octet_bounds)] }
def OctetGetsSaid : Prop := octetGetsRow.holds Tryd.pinned (OpenSpec.ofChange octetGetsSpec)

/-- ITS FALSE NEIGHBOUR: 'it returns false'. Refute it at one input. -/
def octetGetsWrong : ChangeSpec := { name := "octetGets", fn := fun _ => fun
  | [d1, d2, d3] => { results := [.lit (.bool false)], args := [d1, d2, d3] }
  | _ => none }
def OctetGetsWrongFalsely : Prop := octetGetsRow.holds Tryd.pinned (OpenSpec.ofChange octetGetsWrong)

/-- 'sextonlaw01.OctetBack': WHATEVER THE INPUT: true; the input reads as it did. -/
def octetBackSpec : ChangeSpec := { name := "octetBack", fn := fun _ => fun
  | [d1, d2, d3, d4] => { results := [.lit (.bool true)], args := [d1, d2, d3, d4] }
  | _ => none }
def octetBackRow : OpenClaim := { program := "ytcnjhblboedbpaadoor", sum := "5029e21cc5586d61fe690531727aca1821c3c5f9801aed7b9801c5e818a27beb", func := "sexton/sextonlaw01.OctetBack", spec := "octetBack", named := ["sexton/octet.bounds"], apart := false, laid := [("sexton/octet.bounds", laid_sexton_octet_bounds)] }
def OctetBackSaid : Prop := octetBackRow.holds Tryd.pinned (OpenSpec.ofChange octetBackSpec)

/-- ITS FALSE NEIGHBOUR: 'it returns false'. Refute it at one input. -/
def octetBackWrong : ChangeSpec := { name := "octetBack", fn := fun _ => fun
  | [d1, d2, d3, d4] => { results := [.lit (.bool false)], args := [d1, d2, d3, d4] }
  | _ => none }
def OctetBackWrongFalsely : Prop := octetBackRow.holds Tryd.pinned (OpenSpec.ofChange octetBackWrong)

/-- 'sextonlaw01.OctetTextBack': WHATEVER THE INPUT: true; the input reads as it did. -/
def octetTextBackSpec : ChangeSpec := { name := "octetTextBack", fn := fun _ => fun
  | [d1, d2, d3] => { results := [.lit (.bool true)], args := [d1, d2, d3] }
  | _ => none }
def octetTextBackRow : OpenClaim := { program := "ytcnjhblboedbpaadoor", sum := "5029e21cc5586d61fe690531727aca1821c3c5f9801aed7b9801c5e818a27beb", func := "sexton/sextonlaw01.OctetTextBack", spec := "octetTextBack", named := ["sexton/octet.bounds"], apart := false, laid := [("sexton/octet.bounds", laid_sexton_octet_bounds)] }
def OctetTextBackSaid : Prop := octetTextBackRow.holds Tryd.pinned (OpenSpec.ofChange octetTextBackSpec)

/-- ITS FALSE NEIGHBOUR: 'it returns false'. Refute it at one input. -/
def octetTextBackWrong : ChangeSpec := { name := "octetTextBack", fn := fun _ => fun
  | [d1, d2, d3] => { results := [.lit (.bool false)], args := [d1, d2, d3] }
  | _ => none }
def OctetTextBackWrongFalsely : Prop := octetTextBackRow.holds Tryd.pinned (OpenSpec.ofChange octetTextBackWrong)

/-- 'sextonlaw01.OctetLowest': WHATEVER THE INPUT: true; the input reads as it did. -/
def octetLowestSpec : ChangeSpec := { name := "octetLowest", fn := fun _ => fun
  | [d] => { results := [.lit (.bool true)], args := [d] }
  | _ => none }
def octetLowestRow : OpenClaim := { program := "ytcnjhblboedbpaadoor", sum := "5029e21cc5586d61fe690531727aca1821c3c5f9801aed7b9801c5e818a27beb", func := "sexton/sextonlaw01.OctetLowest", spec := "octetLowest", named := ["sexton/octet.bounds"], apart := false, laid := [("sexton/octet.bounds", laid_sexton_octet_bounds)] }
def OctetLowestSaid : Prop := octetLowestRow.holds Tryd.pinned (OpenSpec.ofChange octetLowestSpec)

/-- ITS FALSE NEIGHBOUR: 'it returns false'. Refute it at one input. -/
def octetLowestWrong : ChangeSpec := { name := "octetLowest", fn := fun _ => fun
  | [d] => { results := [.lit (.bool false)], args := [d] }
  | _ => none }
def OctetLowestWrongFalsely : Prop := octetLowestRow.holds Tryd.pinned (OpenSpec.ofChange octetLowestWrong)

/-- 'sextonlaw01.OctetShort': WHATEVER THE INPUT: true; the input reads as it did. -/
def octetShortSpec : ChangeSpec := { name := "octetShort", fn := fun _ => fun
  | [d1, d2, d3] => { results := [.lit (.bool true)], args := [d1, d2, d3] }
  | _ => none }
def octetShortRow : OpenClaim := { program := "ytcnjhblboedbpaadoor", sum := "5029e21cc5586d61fe690531727aca1821c3c5f9801aed7b9801c5e818a27beb", func := "sexton/sextonlaw01.OctetShort", spec := "octetShort", named := ["sexton/octet.bounds"], apart := false, laid := [("sexton/octet.bounds", laid_sexton_octet_bounds)] }
def OctetShortSaid : Prop := octetShortRow.holds Tryd.pinned (OpenSpec.ofChange octetShortSpec)

/-- ITS FALSE NEIGHBOUR: 'it returns false'. Refute it at one input. -/
def octetShortWrong : ChangeSpec := { name := "octetShort", fn := fun _ => fun
  | [d1, d2, d3] => { results := [.lit (.bool false)], args := [d1, d2, d3] }
  | _ => none }
def OctetShortWrongFalsely : Prop := octetShortRow.holds Tryd.pinned (OpenSpec.ofChange octetShortWrong)

/- THE SECOND FORM. 'bulk': how many values and letters a reading holds, each counted each time it is reached (what is shared counts as often as it is met; a slice's spare places count too). A statement '..UptoSaid' is the law's where the arguments, and the package variables that the reading takes, are together of bulk at most 1048576: NARROWER than '..Said'. Prove '..Said' where nothing that the law and all that it calls make is longer than what came in: it says more and counts as full. Else prove '..UptoSaid'. A law counts once. -/
mutual
def uptoBulk {H : Type} : DataW H → Nat
  | .lit (.string bytes) => bytes.length + 1
  | .lit _ => 1
  | .nil => 1
  | .ptr d => uptoBulk d + 1
  | .slice elems spare => uptoBulkAll elems + uptoBulkAll spare + 1
  | .agg parts => uptoBulkAll parts + 1
  | .iface _ d => uptoBulk d + 1
  | .map entries => uptoBulkEntries entries + 1
  | .held _ => 1
def uptoBulkAll {H : Type} : List (DataW H) → Nat
  | [] => 0
  | d :: r => uptoBulk d + uptoBulkAll r
def uptoBulkEntries {H : Type} : List (Lit × DataW H) → Nat
  | [] => 0
  | x :: r => uptoBulkEntry x + uptoBulkEntries r
def uptoBulkEntry {H : Type} : Lit × DataW H → Nat
  | (.string bytes, d) => bytes.length + uptoBulk d + 1
  | (_, d) => uptoBulk d + 1
 end
def uptoSmall : (H : Type) → List (DataW H) → Bool := fun _ ds => decide (uptoBulkAll ds ≤ 1048576)
def OpenSpec.upto (s : _root_.Go.ChangeSpec) : _root_.Go.OpenSpec := { _root_.Go.OpenSpec.ofChange s with cond := some uptoSmall }

/-- 'sextonlaw01.OctetPuts', WHERE WHAT IT READS IS OF BULK AT MOST 1048576: true; the input reads as it did. -/
def octetPutsUptoRow : OpenClaim := { program := "ytcnjhblboedbpaadoor", sum := "5029e21cc5586d61fe690531727aca1821c3c5f9801aed7b9801c5e818a27beb", func := "sexton/sextonlaw01.OctetPuts", spec := "octetPuts", named := ["sexton/octet.bounds"], apart := false, laid := [("sexton/octet.bounds", laid_sexton_octet_bounds)], narrowed := true }
def OctetPutsUptoSaid : Prop := octetPutsUptoRow.holds Tryd.pinned (OpenSpec.upto octetPutsSpec)

/-- 'sextonlaw01.OctetGets', WHERE WHAT IT READS IS OF BULK AT MOST 1048576: true; the input reads as it did. -/
def octetGetsUptoRow : OpenClaim := { program := "ytcnjhblboedbpaadoor", sum := "5029e21cc5586d61fe690531727aca1821c3c5f9801aed7b9801c5e818a27beb", func := "sexton/sextonlaw01.OctetGets", spec := "octetGets", named := ["sexton/octet.bounds"], apart := false, laid := [("sexton/octet.bounds", laid_sexton_octet_bounds)], narrowed := true }
def OctetGetsUptoSaid : Prop := octetGetsUptoRow.holds Tryd.pinned (OpenSpec.upto octetGetsSpec)

/-- 'sextonlaw01.OctetBack', WHERE WHAT IT READS IS OF BULK AT MOST 1048576: true; the input reads as it did. -/
def octetBackUptoRow : OpenClaim := { program := "ytcnjhblboedbpaadoor", sum := "5029e21cc5586d61fe690531727aca1821c3c5f9801aed7b9801c5e818a27beb", func := "sexton/sextonlaw01.OctetBack", spec := "octetBack", named := ["sexton/octet.bounds"], apart := false, laid := [("sexton/octet.bounds", laid_sexton_octet_bounds)], narrowed := true }
def OctetBackUptoSaid : Prop := octetBackUptoRow.holds Tryd.pinned (OpenSpec.upto octetBackSpec)

/-- 'sextonlaw01.OctetTextBack', WHERE WHAT IT READS IS OF BULK AT MOST 1048576: true; the input reads as it did. -/
def octetTextBackUptoRow : OpenClaim := { program := "ytcnjhblboedbpaadoor", sum := "5029e21cc5586d61fe690531727aca1821c3c5f9801aed7b9801c5e818a27beb", func := "sexton/sextonlaw01.OctetTextBack", spec := "octetTextBack", named := ["sexton/octet.bounds"], apart := false, laid := [("sexton/octet.bounds", laid_sexton_octet_bounds)], narrowed := true }
def OctetTextBackUptoSaid : Prop := octetTextBackUptoRow.holds Tryd.pinned (OpenSpec.upto octetTextBackSpec)

/-- 'sextonlaw01.OctetLowest', WHERE WHAT IT READS IS OF BULK AT MOST 1048576: true; the input reads as it did. -/
def octetLowestUptoRow : OpenClaim := { program := "ytcnjhblboedbpaadoor", sum := "5029e21cc5586d61fe690531727aca1821c3c5f9801aed7b9801c5e818a27beb", func := "sexton/sextonlaw01.OctetLowest", spec := "octetLowest", named := ["sexton/octet.bounds"], apart := false, laid := [("sexton/octet.bounds", laid_sexton_octet_bounds)], narrowed := true }
def OctetLowestUptoSaid : Prop := octetLowestUptoRow.holds Tryd.pinned (OpenSpec.upto octetLowestSpec)

/-- 'sextonlaw01.OctetShort', WHERE WHAT IT READS IS OF BULK AT MOST 1048576: true; the input reads as it did. -/
def octetShortUptoRow : OpenClaim := { program := "ytcnjhblboedbpaadoor", sum := "5029e21cc5586d61fe690531727aca1821c3c5f9801aed7b9801c5e818a27beb", func := "sexton/sextonlaw01.OctetShort", spec := "octetShort", named := ["sexton/octet.bounds"], apart := false, laid := [("sexton/octet.bounds", laid_sexton_octet_bounds)], narrowed := true }
def OctetShortUptoSaid : Prop := octetShortUptoRow.holds Tryd.pinned (OpenSpec.upto octetShortSpec)

end Rows
end Go.Proofs.YtcnjhblboedbpaaDoor
