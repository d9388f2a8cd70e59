/-
  NARROWER THAN 'FOR EVERY INPUT', by the rows' own cells (each row's printed sentence says how): CrcSums: laid · CrcParts: laid · CrcFar: laid · CrcFew: laid · CrcNear: laid · CrcOdd: laid · CrcTogether: laid.
  DERIVED. THE GIVEN ROWS OF THIS SEAT. 7 by the template 'for every input the law returns true; each argument reads behind the call as it read before'; 0 by the template 'total and deterministic' (their statements: YtpfclldpebfocaaDoorTotals.lean).
  GIVEN WITH THE SEED: the statements are not yours to turn. If you find one false, say at which input.
  Laid BY PROGRAM, IN A SANDBOX (cutbox-rows.mjs): the forced cells as the released guide's own fill.sh prints them over the translation 614b7cb0359b2973… (all of the seat's roots in one cut). By AI agents, Wed Nov 11 2026. No macro, syntax, notation, axiom, sorry.
-/
import Derived.Test.YtpfclldpebfocaaDoorChecked
import GoSem.Claim
import GoSem.ClaimJoined
import GoSem.ClaimMapViews
import Derived.JoinedTies
import Derived.KernelRfl
namespace Go.Proofs.YtpfclldpebfocaaDoor
/- THE CELL 'sum', in the pinned program and in every row, IS THE sha256 OF THE DUMP (.gsa) THAT YtpfclldpebfocaaDoorProg.lean LOADS. Nothing in Lean hashes anything: it is a label: what it is worth is what the hold of that sum in a sandbox is worth. -/
noncomputable def Tryd.pinned : Pinned := { name := "ytpfclldpebfocaadoor", sum := "614b7cb0359b29735fb2f695d29902049364e9381e123522437a6e5a671fef2f", checked := Tryd.checked }
namespace Rows
def none {H : Type} : Left H := { results := [], args := [] }

/- WHAT THE LISTED PACKAGE-LEVEL VARIABLES READ AS WHEN THE CALL BEGINS. Each datum BY PROGRAM (the guide's laid-datum.mjs) off the statement by which the dump's own 'gosem.cut.vars' lays the variable. In a bare row this is a premise. The card (YtpfclldpebfocaaDoorCards.lean) ties it to the program's text. -/
def laid_sexton_crc_halves {H : Type} : DataW H := .agg [.lit (.int .u32 0), .lit (.int .u32 274646895), .lit (.int .u32 549293790), .lit (.int .u32 820201905), .lit (.int .u32 1098587580), .lit (.int .u32 1361435347), .lit (.int .u32 1640403810), .lit (.int .u32 1905808397), .lit (.int .u32 2197175160), .lit (.int .u32 2460548119), .lit (.int .u32 2722870694), .lit (.int .u32 2987750089), .lit (.int .u32 3280807620), .lit (.int .u32 3553878443), .lit (.int .u32 3811616794), .lit (.int .u32 4084100981)]

/-- 'sextonlaw02.CrcSums': WHATEVER THE INPUT: true; the input reads as it did. -/
def crcSumsSpec : ChangeSpec := { name := "crcSums", fn := fun _ => fun
  | [d1, d2] => { results := [.lit (.bool true)], args := [d1, d2] }
  | _ => none }
def crcSumsRow : OpenClaim := { program := "ytpfclldpebfocaadoor", sum := "614b7cb0359b29735fb2f695d29902049364e9381e123522437a6e5a671fef2f", func := "sexton/sextonlaw02.CrcSums", spec := "crcSums", named := ["sexton/crc.halves"], apart := false, laid := [("sexton/crc.halves", laid_sexton_crc_halves)] }
def CrcSumsSaid : Prop := crcSumsRow.holds Tryd.pinned (OpenSpec.ofChange crcSumsSpec)

/-- ITS FALSE NEIGHBOUR: 'it returns false'. Refute it at one input. -/
def crcSumsWrong : ChangeSpec := { name := "crcSums", fn := fun _ => fun
  | [d1, d2] => { results := [.lit (.bool false)], args := [d1, d2] }
  | _ => none }
def CrcSumsWrongFalsely : Prop := crcSumsRow.holds Tryd.pinned (OpenSpec.ofChange crcSumsWrong)

/-- 'sextonlaw02.CrcParts': WHATEVER THE INPUT: true; the input reads as it did. -/
def crcPartsSpec : ChangeSpec := { name := "crcParts", fn := fun _ => fun
  | [d1, d2, d3] => { results := [.lit (.bool true)], args := [d1, d2, d3] }
  | _ => none }
def crcPartsRow : OpenClaim := { program := "ytpfclldpebfocaadoor", sum := "614b7cb0359b29735fb2f695d29902049364e9381e123522437a6e5a671fef2f", func := "sexton/sextonlaw02.CrcParts", spec := "crcParts", named := ["sexton/crc.halves"], apart := false, laid := [("sexton/crc.halves", laid_sexton_crc_halves)] }
def CrcPartsSaid : Prop := crcPartsRow.holds Tryd.pinned (OpenSpec.ofChange crcPartsSpec)

/-- ITS FALSE NEIGHBOUR: 'it returns false'. Refute it at one input. -/
def crcPartsWrong : ChangeSpec := { name := "crcParts", fn := fun _ => fun
  | [d1, d2, d3] => { results := [.lit (.bool false)], args := [d1, d2, d3] }
  | _ => none }
def CrcPartsWrongFalsely : Prop := crcPartsRow.holds Tryd.pinned (OpenSpec.ofChange crcPartsWrong)

/-- 'sextonlaw02.CrcFar': WHATEVER THE INPUT: true; the input reads as it did. -/
def crcFarSpec : ChangeSpec := { name := "crcFar", fn := fun _ => fun
  | [d1, d2, d3] => { results := [.lit (.bool true)], args := [d1, d2, d3] }
  | _ => none }
def crcFarRow : OpenClaim := { program := "ytpfclldpebfocaadoor", sum := "614b7cb0359b29735fb2f695d29902049364e9381e123522437a6e5a671fef2f", func := "sexton/sextonlaw02.CrcFar", spec := "crcFar", named := ["sexton/crc.halves"], apart := false, laid := [("sexton/crc.halves", laid_sexton_crc_halves)] }
def CrcFarSaid : Prop := crcFarRow.holds Tryd.pinned (OpenSpec.ofChange crcFarSpec)

/-- ITS FALSE NEIGHBOUR: 'it returns false'. Refute it at one input. -/
def crcFarWrong : ChangeSpec := { name := "crcFar", fn := fun _ => fun
  | [d1, d2, d3] => { results := [.lit (.bool false)], args := [d1, d2, d3] }
  | _ => none }
def CrcFarWrongFalsely : Prop := crcFarRow.holds Tryd.pinned (OpenSpec.ofChange crcFarWrong)

/-- 'sextonlaw02.CrcFew': WHATEVER THE INPUT: true; the input reads as it did. -/
def crcFewSpec : ChangeSpec := { name := "crcFew", fn := fun _ => fun
  | [d1, d2, d3, d4] => { results := [.lit (.bool true)], args := [d1, d2, d3, d4] }
  | _ => none }
def crcFewRow : OpenClaim := { program := "ytpfclldpebfocaadoor", sum := "614b7cb0359b29735fb2f695d29902049364e9381e123522437a6e5a671fef2f", func := "sexton/sextonlaw02.CrcFew", spec := "crcFew", named := ["sexton/crc.halves"], apart := false, laid := [("sexton/crc.halves", laid_sexton_crc_halves)] }
def CrcFewSaid : Prop := crcFewRow.holds Tryd.pinned (OpenSpec.ofChange crcFewSpec)

/-- ITS FALSE NEIGHBOUR: 'it returns false'. Refute it at one input. -/
def crcFewWrong : ChangeSpec := { name := "crcFew", fn := fun _ => fun
  | [d1, d2, d3, d4] => { results := [.lit (.bool false)], args := [d1, d2, d3, d4] }
  | _ => none }
def CrcFewWrongFalsely : Prop := crcFewRow.holds Tryd.pinned (OpenSpec.ofChange crcFewWrong)

/-- 'sextonlaw02.CrcNear': WHATEVER THE INPUT: true; the input reads as it did. -/
def crcNearSpec : ChangeSpec := { name := "crcNear", fn := fun _ => fun
  | [d1, d2, d3] => { results := [.lit (.bool true)], args := [d1, d2, d3] }
  | _ => none }
def crcNearRow : OpenClaim := { program := "ytpfclldpebfocaadoor", sum := "614b7cb0359b29735fb2f695d29902049364e9381e123522437a6e5a671fef2f", func := "sexton/sextonlaw02.CrcNear", spec := "crcNear", named := ["sexton/crc.halves"], apart := false, laid := [("sexton/crc.halves", laid_sexton_crc_halves)] }
def CrcNearSaid : Prop := crcNearRow.holds Tryd.pinned (OpenSpec.ofChange crcNearSpec)

/-- ITS FALSE NEIGHBOUR: 'it returns false'. Refute it at one input. -/
def crcNearWrong : ChangeSpec := { name := "crcNear", fn := fun _ => fun
  | [d1, d2, d3] => { results := [.lit (.bool false)], args := [d1, d2, d3] }
  | _ => none }
def CrcNearWrongFalsely : Prop := crcNearRow.holds Tryd.pinned (OpenSpec.ofChange crcNearWrong)

/-- 'sextonlaw02.CrcOdd': WHATEVER THE INPUT: true; the input reads as it did. -/
def crcOddSpec : ChangeSpec := { name := "crcOdd", fn := fun _ => fun
  | [d1, d2] => { results := [.lit (.bool true)], args := [d1, d2] }
  | _ => none }
def crcOddRow : OpenClaim := { program := "ytpfclldpebfocaadoor", sum := "614b7cb0359b29735fb2f695d29902049364e9381e123522437a6e5a671fef2f", func := "sexton/sextonlaw02.CrcOdd", spec := "crcOdd", named := ["sexton/crc.halves"], apart := false, laid := [("sexton/crc.halves", laid_sexton_crc_halves)] }
def CrcOddSaid : Prop := crcOddRow.holds Tryd.pinned (OpenSpec.ofChange crcOddSpec)

/-- ITS FALSE NEIGHBOUR: 'it returns false'. Refute it at one input. -/
def crcOddWrong : ChangeSpec := { name := "crcOdd", fn := fun _ => fun
  | [d1, d2] => { results := [.lit (.bool false)], args := [d1, d2] }
  | _ => none }
def CrcOddWrongFalsely : Prop := crcOddRow.holds Tryd.pinned (OpenSpec.ofChange crcOddWrong)

/-- 'sextonlaw02.CrcTogether': WHATEVER THE INPUT: true; the input reads as it did. -/
def crcTogetherSpec : ChangeSpec := { name := "crcTogether", fn := fun _ => fun
  | [d1, d2, d3] => { results := [.lit (.bool true)], args := [d1, d2, d3] }
  | _ => none }
def crcTogetherRow : OpenClaim := { program := "ytpfclldpebfocaadoor", sum := "614b7cb0359b29735fb2f695d29902049364e9381e123522437a6e5a671fef2f", func := "sexton/sextonlaw02.CrcTogether", spec := "crcTogether", named := ["sexton/crc.halves"], apart := false, laid := [("sexton/crc.halves", laid_sexton_crc_halves)] }
def CrcTogetherSaid : Prop := crcTogetherRow.holds Tryd.pinned (OpenSpec.ofChange crcTogetherSpec)

/-- ITS FALSE NEIGHBOUR: 'it returns false'. Refute it at one input. -/
def crcTogetherWrong : ChangeSpec := { name := "crcTogether", fn := fun _ => fun
  | [d1, d2, d3] => { results := [.lit (.bool false)], args := [d1, d2, d3] }
  | _ => none }
def CrcTogetherWrongFalsely : Prop := crcTogetherRow.holds Tryd.pinned (OpenSpec.ofChange crcTogetherWrong)

/- THE SECOND FORM. 'bulk': how many values and letters a reading holds, each counted each time it is reached (what is shared counts as often as it is met; a slice's spare places count too). A statement '..UptoSaid' is the law's where the arguments, and the package variables that the reading takes, are together of bulk at most 1048576: NARROWER than '..Said'. Prove '..Said' where nothing that the law and all that it calls make is longer than what came in: it says more and counts as full. Else prove '..UptoSaid'. A law counts once. -/
mutual
def uptoBulk {H : Type} : DataW H → Nat
  | .lit (.string bytes) => bytes.length + 1
  | .lit _ => 1
  | .nil => 1
  | .ptr d => uptoBulk d + 1
  | .slice elems spare => uptoBulkAll elems + uptoBulkAll spare + 1
  | .agg parts => uptoBulkAll parts + 1
  | .iface _ d => uptoBulk d + 1
  | .map entries => uptoBulkEntries entries + 1
  | .held _ => 1
def uptoBulkAll {H : Type} : List (DataW H) → Nat
  | [] => 0
  | d :: r => uptoBulk d + uptoBulkAll r
def uptoBulkEntries {H : Type} : List (Lit × DataW H) → Nat
  | [] => 0
  | x :: r => uptoBulkEntry x + uptoBulkEntries r
def uptoBulkEntry {H : Type} : Lit × DataW H → Nat
  | (.string bytes, d) => bytes.length + uptoBulk d + 1
  | (_, d) => uptoBulk d + 1
 end
def uptoSmall : (H : Type) → List (DataW H) → Bool := fun _ ds => decide (uptoBulkAll ds ≤ 1048576)
def OpenSpec.upto (s : _root_.Go.ChangeSpec) : _root_.Go.OpenSpec := { _root_.Go.OpenSpec.ofChange s with cond := some uptoSmall }

/-- 'sextonlaw02.CrcSums', WHERE WHAT IT READS IS OF BULK AT MOST 1048576: true; the input reads as it did. -/
def crcSumsUptoRow : OpenClaim := { program := "ytpfclldpebfocaadoor", sum := "614b7cb0359b29735fb2f695d29902049364e9381e123522437a6e5a671fef2f", func := "sexton/sextonlaw02.CrcSums", spec := "crcSums", named := ["sexton/crc.halves"], apart := false, laid := [("sexton/crc.halves", laid_sexton_crc_halves)], narrowed := true }
def CrcSumsUptoSaid : Prop := crcSumsUptoRow.holds Tryd.pinned (OpenSpec.upto crcSumsSpec)

/-- 'sextonlaw02.CrcParts', WHERE WHAT IT READS IS OF BULK AT MOST 1048576: true; the input reads as it did. -/
def crcPartsUptoRow : OpenClaim := { program := "ytpfclldpebfocaadoor", sum := "614b7cb0359b29735fb2f695d29902049364e9381e123522437a6e5a671fef2f", func := "sexton/sextonlaw02.CrcParts", spec := "crcParts", named := ["sexton/crc.halves"], apart := false, laid := [("sexton/crc.halves", laid_sexton_crc_halves)], narrowed := true }
def CrcPartsUptoSaid : Prop := crcPartsUptoRow.holds Tryd.pinned (OpenSpec.upto crcPartsSpec)

/-- 'sextonlaw02.CrcFar', WHERE WHAT IT READS IS OF BULK AT MOST 1048576: true; the input reads as it did. -/
def crcFarUptoRow : OpenClaim := { program := "ytpfclldpebfocaadoor", sum := "614b7cb0359b29735fb2f695d29902049364e9381e123522437a6e5a671fef2f", func := "sexton/sextonlaw02.CrcFar", spec := "crcFar", named := ["sexton/crc.halves"], apart := false, laid := [("sexton/crc.halves", laid_sexton_crc_halves)], narrowed := true }
def CrcFarUptoSaid : Prop := crcFarUptoRow.holds Tryd.pinned (OpenSpec.upto crcFarSpec)

/-- 'sextonlaw02.CrcFew', WHERE WHAT IT READS IS OF BULK AT MOST 1048576: true; the input reads as it did. -/
def crcFewUptoRow : OpenClaim := { program := "ytpfclldpebfocaadoor", sum := "614b7cb0359b29735fb2f695d29902049364e9381e123522437a6e5a671fef2f", func := "sexton/sextonlaw02.CrcFew", spec := "crcFew", named := ["sexton/crc.halves"], apart := false, laid := [("sexton/crc.halves", laid_sexton_crc_halves)], narrowed := true }
def CrcFewUptoSaid : Prop := crcFewUptoRow.holds Tryd.pinned (OpenSpec.upto crcFewSpec)

/-- 'sextonlaw02.CrcNear', WHERE WHAT IT READS IS OF BULK AT MOST 1048576: true; the input reads as it did. -/
def crcNearUptoRow : OpenClaim := { program := "ytpfclldpebfocaadoor", sum := "614b7cb0359b29735fb2f695d29902049364e9381e123522437a6e5a671fef2f", func := "sexton/sextonlaw02.CrcNear", spec := "crcNear", named := ["sexton/crc.halves"], apart := false, laid := [("sexton/crc.halves", laid_sexton_crc_halves)], narrowed := true }
def CrcNearUptoSaid : Prop := crcNearUptoRow.holds Tryd.pinned (OpenSpec.upto crcNearSpec)

/-- 'sextonlaw02.CrcOdd', WHERE WHAT IT READS IS OF BULK AT MOST 1048576: true; the input reads as it did. -/
def crcOddUptoRow : OpenClaim := { program := "ytpfclldpebfocaadoor", sum := "614b7cb0359b29735fb2f695d29902049364e9381e123522437a6e5a671fef2f", func := "sexton/sextonlaw02.CrcOdd", spec := "crcOdd", named := ["sexton/crc.halves"], apart := false, laid := [("sexton/crc.halves", laid_sexton_crc_halves)], narrowed := true }
def CrcOddUptoSaid : Prop := crcOddUptoRow.holds Tryd.pinned (OpenSpec.upto crcOddSpec)

/-- 'sextonlaw02.CrcTogether', WHERE WHAT IT READS IS OF BULK AT MOST 1048576: true; the input reads as it did. -/
def crcTogetherUptoRow : OpenClaim := { program := "ytpfclldpebfocaadoor", sum := "614b7cb0359b29735fb2f695d29902049364e9381e123522437a6e5a671fef2f", func := "sexton/sextonlaw02.CrcTogether", spec := "crcTogether", named := ["sexton/crc.halves"], apart := false, laid := [("sexton/crc.halves", laid_sexton_crc_halves)], narrowed := true }
def CrcTogetherUptoSaid : Prop := crcTogetherUptoRow.holds Tryd.pinned (OpenSpec.upto crcTogetherSpec)

end Rows
end Go.Proofs.YtpfclldpebfocaaDoor
