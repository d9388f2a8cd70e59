/-
  NARROWER THAN 'FOR EVERY INPUT', by the rows' own cells (each row's printed sentence says how): FrameSeals: laid · FrameOpens: laid · FrameBack: laid · FrameSpoilt: laid · FrameNear: laid · FrameElsewhere: laid · FrameCut: laid.
  DERIVED. THE GIVEN ROWS OF THIS SEAT. 7 by the template 'for every input the law returns true; each argument reads behind the call as it read before'; 0 by the template 'total and deterministic' (their statements: YtgcjilifmcianaaDoorTotals.lean).
  GIVEN WITH THE SEED: the statements are not yours to turn. If you find one false, say at which input.
  Laid BY PROGRAM, IN A SANDBOX (cutbox-rows.mjs): the forced cells as the released guide's own fill.sh prints them over the translation da32467f8aab71b0… (all of the seat's roots in one cut). By AI agents, Wed Nov 11 2026. No macro, syntax, notation, axiom, sorry.
-/
import Derived.Test.YtgcjilifmcianaaDoorChecked
import GoSem.Claim
import GoSem.ClaimJoined
import GoSem.ClaimMapViews
import Derived.JoinedTies
import Derived.KernelRfl
namespace Go.Proofs.YtgcjilifmcianaaDoor
/- THE CELL 'sum', in the pinned program and in every row, IS THE sha256 OF THE DUMP (.gsa) THAT YtgcjilifmcianaaDoorProg.lean LOADS. Nothing in Lean hashes anything: it is a label: what it is worth is what the hold of that sum in a sandbox is worth. -/
noncomputable def Tryd.pinned : Pinned := { name := "ytgcjilifmcianaadoor", sum := "da32467f8aab71b06507a70a3aabea70224d177ea8a754ff4a87f3c9f6a8e286", checked := Tryd.checked }
namespace Rows
def none {H : Type} : Left H := { results := [], args := [] }

/- WHAT THE LISTED PACKAGE-LEVEL VARIABLES READ AS WHEN THE CALL BEGINS. Each datum BY PROGRAM (the guide's laid-datum.mjs) off the statement by which the dump's own 'gosem.cut.vars' lays the variable. In a bare row this is a premise. The card (YtgcjilifmcianaaDoorCards.lean) ties it to the program's text. -/
def laid_sexton_crc_halves {H : Type} : DataW H := .agg [.lit (.int .u32 0), .lit (.int .u32 274646895), .lit (.int .u32 549293790), .lit (.int .u32 820201905), .lit (.int .u32 1098587580), .lit (.int .u32 1361435347), .lit (.int .u32 1640403810), .lit (.int .u32 1905808397), .lit (.int .u32 2197175160), .lit (.int .u32 2460548119), .lit (.int .u32 2722870694), .lit (.int .u32 2987750089), .lit (.int .u32 3280807620), .lit (.int .u32 3553878443), .lit (.int .u32 3811616794), .lit (.int .u32 4084100981)]
def laid_sexton_octet_bounds {H : Type} : DataW H := .agg [.lit (.int .i64 0), .lit (.int .i64 256), .lit (.int .i64 65536), .lit (.int .i64 0), .lit (.int .i64 4294967296), .lit (.int .i64 0), .lit (.int .i64 281474976710656)]
def laid_sexton_tag_regions {H : Type} : DataW H := .agg [.agg [.lit (.int .i64 0), .lit (.int .i64 0)], .agg [.lit (.int .i64 2), .lit (.int .i64 1)], .agg [.lit (.int .i64 2), .lit (.int .i64 1)], .agg [.lit (.int .i64 24), .lit (.int .i64 1)], .agg [.lit (.int .i64 48), .lit (.int .i64 2)], .agg [.lit (.int .i64 16), .lit (.int .i64 2)]]
def laid_sexton_tag_widths {H : Type} : DataW H := .agg [.lit (.int .i64 1), .lit (.int .i64 1), .lit (.int .i64 1), .lit (.int .i64 6), .lit (.int .i64 6)]

/-- 'sextonlaw04.FrameSeals': WHATEVER THE INPUT: true; the input reads as it did. -/
def frameSealsSpec : ChangeSpec := { name := "frameSeals", fn := fun _ => fun
  | [d1, d2, d3] => { results := [.lit (.bool true)], args := [d1, d2, d3] }
  | _ => none }
def frameSealsRow : OpenClaim := { program := "ytgcjilifmcianaadoor", sum := "da32467f8aab71b06507a70a3aabea70224d177ea8a754ff4a87f3c9f6a8e286", func := "sexton/sextonlaw04.FrameSeals", spec := "frameSeals", named := ["sexton/tag.regions", "sexton/octet.bounds", "sexton/tag.widths", "sexton/crc.halves"], apart := false, laid := [("sexton/crc.halves", laid_sexton_crc_halves), ("sexton/octet.bounds", laid_sexton_octet_bounds), ("sexton/tag.regions", laid_sexton_tag_regions), ("sexton/tag.widths", laid_sexton_tag_widths)] }
def FrameSealsSaid : Prop := frameSealsRow.holds Tryd.pinned (OpenSpec.ofChange frameSealsSpec)

/-- ITS FALSE NEIGHBOUR: 'it returns false'. Refute it at one input. -/
def frameSealsWrong : ChangeSpec := { name := "frameSeals", fn := fun _ => fun
  | [d1, d2, d3] => { results := [.lit (.bool false)], args := [d1, d2, d3] }
  | _ => none }
def FrameSealsWrongFalsely : Prop := frameSealsRow.holds Tryd.pinned (OpenSpec.ofChange frameSealsWrong)

/-- 'sextonlaw04.FrameOpens': WHATEVER THE INPUT: true; the input reads as it did. -/
def frameOpensSpec : ChangeSpec := { name := "frameOpens", fn := fun _ => fun
  | [d1, d2, d3, d4] => { results := [.lit (.bool true)], args := [d1, d2, d3, d4] }
  | _ => none }
def frameOpensRow : OpenClaim := { program := "ytgcjilifmcianaadoor", sum := "da32467f8aab71b06507a70a3aabea70224d177ea8a754ff4a87f3c9f6a8e286", func := "sexton/sextonlaw04.FrameOpens", spec := "frameOpens", inPlace := ["internal/bytealg.Count", "internal/bytealg.IndexByte", "internal/bytealg.Index"], named := ["internal/bytealg.MaxLen", "sexton/octet.bounds", "sexton/tag.widths", "sexton/tag.regions", "sexton/crc.halves"], apart := false, laid := [("sexton/crc.halves", laid_sexton_crc_halves), ("sexton/octet.bounds", laid_sexton_octet_bounds), ("sexton/tag.regions", laid_sexton_tag_regions), ("sexton/tag.widths", laid_sexton_tag_widths)] }
def FrameOpensSaid : Prop := frameOpensRow.holds Tryd.pinned (OpenSpec.ofChange frameOpensSpec)

/-- ITS FALSE NEIGHBOUR: 'it returns false'. Refute it at one input. -/
def frameOpensWrong : ChangeSpec := { name := "frameOpens", fn := fun _ => fun
  | [d1, d2, d3, d4] => { results := [.lit (.bool false)], args := [d1, d2, d3, d4] }
  | _ => none }
def FrameOpensWrongFalsely : Prop := frameOpensRow.holds Tryd.pinned (OpenSpec.ofChange frameOpensWrong)

/-- 'sextonlaw04.FrameBack': WHATEVER THE INPUT: true; the input reads as it did. -/
def frameBackSpec : ChangeSpec := { name := "frameBack", fn := fun _ => fun
  | [d1, d2, d3, d4] => { results := [.lit (.bool true)], args := [d1, d2, d3, d4] }
  | _ => none }
def frameBackRow : OpenClaim := { program := "ytgcjilifmcianaadoor", sum := "da32467f8aab71b06507a70a3aabea70224d177ea8a754ff4a87f3c9f6a8e286", func := "sexton/sextonlaw04.FrameBack", spec := "frameBack", inPlace := ["internal/bytealg.Count", "internal/bytealg.IndexByte", "internal/bytealg.Index"], named := ["sexton/tag.regions", "sexton/octet.bounds", "sexton/tag.widths", "sexton/crc.halves", "internal/bytealg.MaxLen"], apart := false, laid := [("sexton/crc.halves", laid_sexton_crc_halves), ("sexton/octet.bounds", laid_sexton_octet_bounds), ("sexton/tag.regions", laid_sexton_tag_regions), ("sexton/tag.widths", laid_sexton_tag_widths)] }
def FrameBackSaid : Prop := frameBackRow.holds Tryd.pinned (OpenSpec.ofChange frameBackSpec)

/-- ITS FALSE NEIGHBOUR: 'it returns false'. Refute it at one input. -/
def frameBackWrong : ChangeSpec := { name := "frameBack", fn := fun _ => fun
  | [d1, d2, d3, d4] => { results := [.lit (.bool false)], args := [d1, d2, d3, d4] }
  | _ => none }
def FrameBackWrongFalsely : Prop := frameBackRow.holds Tryd.pinned (OpenSpec.ofChange frameBackWrong)

/-- 'sextonlaw04.FrameSpoilt': WHATEVER THE INPUT: true; the input reads as it did. -/
def frameSpoiltSpec : ChangeSpec := { name := "frameSpoilt", fn := fun _ => fun
  | [d1, d2, d3, d4] => { results := [.lit (.bool true)], args := [d1, d2, d3, d4] }
  | _ => none }
def frameSpoiltRow : OpenClaim := { program := "ytgcjilifmcianaadoor", sum := "da32467f8aab71b06507a70a3aabea70224d177ea8a754ff4a87f3c9f6a8e286", func := "sexton/sextonlaw04.FrameSpoilt", spec := "frameSpoilt", inPlace := ["internal/bytealg.Count", "internal/bytealg.IndexByte", "internal/bytealg.Index"], named := ["sexton/tag.regions", "sexton/octet.bounds", "sexton/tag.widths", "sexton/crc.halves", "internal/bytealg.MaxLen"], apart := false, laid := [("sexton/crc.halves", laid_sexton_crc_halves), ("sexton/octet.bounds", laid_sexton_octet_bounds), ("sexton/tag.regions", laid_sexton_tag_regions), ("sexton/tag.widths", laid_sexton_tag_widths)] }
def FrameSpoiltSaid : Prop := frameSpoiltRow.holds Tryd.pinned (OpenSpec.ofChange frameSpoiltSpec)

/-- ITS FALSE NEIGHBOUR: 'it returns false'. Refute it at one input. -/
def frameSpoiltWrong : ChangeSpec := { name := "frameSpoilt", fn := fun _ => fun
  | [d1, d2, d3, d4] => { results := [.lit (.bool false)], args := [d1, d2, d3, d4] }
  | _ => none }
def FrameSpoiltWrongFalsely : Prop := frameSpoiltRow.holds Tryd.pinned (OpenSpec.ofChange frameSpoiltWrong)

/-- 'sextonlaw04.FrameNear': WHATEVER THE INPUT: true; the input reads as it did. -/
def frameNearSpec : ChangeSpec := { name := "frameNear", fn := fun _ => fun
  | [d1, d2, d3, d4, d5] => { results := [.lit (.bool true)], args := [d1, d2, d3, d4, d5] }
  | _ => none }
def frameNearRow : OpenClaim := { program := "ytgcjilifmcianaadoor", sum := "da32467f8aab71b06507a70a3aabea70224d177ea8a754ff4a87f3c9f6a8e286", func := "sexton/sextonlaw04.FrameNear", spec := "frameNear", inPlace := ["internal/bytealg.Count", "internal/bytealg.IndexByte", "internal/bytealg.Index"], named := ["sexton/tag.regions", "sexton/octet.bounds", "sexton/tag.widths", "sexton/crc.halves", "internal/bytealg.MaxLen"], apart := false, laid := [("sexton/crc.halves", laid_sexton_crc_halves), ("sexton/octet.bounds", laid_sexton_octet_bounds), ("sexton/tag.regions", laid_sexton_tag_regions), ("sexton/tag.widths", laid_sexton_tag_widths)] }
def FrameNearSaid : Prop := frameNearRow.holds Tryd.pinned (OpenSpec.ofChange frameNearSpec)

/-- ITS FALSE NEIGHBOUR: 'it returns false'. Refute it at one input. -/
def frameNearWrong : ChangeSpec := { name := "frameNear", fn := fun _ => fun
  | [d1, d2, d3, d4, d5] => { results := [.lit (.bool false)], args := [d1, d2, d3, d4, d5] }
  | _ => none }
def FrameNearWrongFalsely : Prop := frameNearRow.holds Tryd.pinned (OpenSpec.ofChange frameNearWrong)

/-- 'sextonlaw04.FrameElsewhere': WHATEVER THE INPUT: true; the input reads as it did. -/
def frameElsewhereSpec : ChangeSpec := { name := "frameElsewhere", fn := fun _ => fun
  | [d1, d2, d3, d4, d5] => { results := [.lit (.bool true)], args := [d1, d2, d3, d4, d5] }
  | _ => none }
def frameElsewhereRow : OpenClaim := { program := "ytgcjilifmcianaadoor", sum := "da32467f8aab71b06507a70a3aabea70224d177ea8a754ff4a87f3c9f6a8e286", func := "sexton/sextonlaw04.FrameElsewhere", spec := "frameElsewhere", inPlace := ["internal/bytealg.Count", "internal/bytealg.IndexByte", "internal/bytealg.Index"], named := ["sexton/tag.regions", "sexton/octet.bounds", "sexton/tag.widths", "sexton/crc.halves", "internal/bytealg.MaxLen"], apart := false, laid := [("sexton/crc.halves", laid_sexton_crc_halves), ("sexton/octet.bounds", laid_sexton_octet_bounds), ("sexton/tag.regions", laid_sexton_tag_regions), ("sexton/tag.widths", laid_sexton_tag_widths)] }
def FrameElsewhereSaid : Prop := frameElsewhereRow.holds Tryd.pinned (OpenSpec.ofChange frameElsewhereSpec)

/-- ITS FALSE NEIGHBOUR: 'it returns false'. Refute it at one input. -/
def frameElsewhereWrong : ChangeSpec := { name := "frameElsewhere", fn := fun _ => fun
  | [d1, d2, d3, d4, d5] => { results := [.lit (.bool false)], args := [d1, d2, d3, d4, d5] }
  | _ => none }
def FrameElsewhereWrongFalsely : Prop := frameElsewhereRow.holds Tryd.pinned (OpenSpec.ofChange frameElsewhereWrong)

/-- 'sextonlaw04.FrameCut': WHATEVER THE INPUT: true; the input reads as it did. -/
def frameCutSpec : ChangeSpec := { name := "frameCut", fn := fun _ => fun
  | [d1, d2, d3, d4] => { results := [.lit (.bool true)], args := [d1, d2, d3, d4] }
  | _ => none }
def frameCutRow : OpenClaim := { program := "ytgcjilifmcianaadoor", sum := "da32467f8aab71b06507a70a3aabea70224d177ea8a754ff4a87f3c9f6a8e286", func := "sexton/sextonlaw04.FrameCut", spec := "frameCut", inPlace := ["internal/bytealg.Count", "internal/bytealg.IndexByte", "internal/bytealg.Index"], named := ["sexton/tag.regions", "sexton/octet.bounds", "sexton/tag.widths", "sexton/crc.halves", "internal/bytealg.MaxLen"], apart := false, laid := [("sexton/crc.halves", laid_sexton_crc_halves), ("sexton/octet.bounds", laid_sexton_octet_bounds), ("sexton/tag.regions", laid_sexton_tag_regions), ("sexton/tag.widths", laid_sexton_tag_widths)] }
def FrameCutSaid : Prop := frameCutRow.holds Tryd.pinned (OpenSpec.ofChange frameCutSpec)

/-- ITS FALSE NEIGHBOUR: 'it returns false'. Refute it at one input. -/
def frameCutWrong : ChangeSpec := { name := "frameCut", fn := fun _ => fun
  | [d1, d2, d3, d4] => { results := [.lit (.bool false)], args := [d1, d2, d3, d4] }
  | _ => none }
def FrameCutWrongFalsely : Prop := frameCutRow.holds Tryd.pinned (OpenSpec.ofChange frameCutWrong)

/- THE SECOND FORM. 'bulk': how many values and letters a reading holds, each counted each time it is reached (what is shared counts as often as it is met; a slice's spare places count too). A statement '..UptoSaid' is the law's where the arguments, and the package variables that the reading takes, are together of bulk at most 1048576: NARROWER than '..Said'. Prove '..Said' where nothing that the law and all that it calls make is longer than what came in: it says more and counts as full. Else prove '..UptoSaid'. A law counts once. -/
mutual
def uptoBulk {H : Type} : DataW H → Nat
  | .lit (.string bytes) => bytes.length + 1
  | .lit _ => 1
  | .nil => 1
  | .ptr d => uptoBulk d + 1
  | .slice elems spare => uptoBulkAll elems + uptoBulkAll spare + 1
  | .agg parts => uptoBulkAll parts + 1
  | .iface _ d => uptoBulk d + 1
  | .map entries => uptoBulkEntries entries + 1
  | .held _ => 1
def uptoBulkAll {H : Type} : List (DataW H) → Nat
  | [] => 0
  | d :: r => uptoBulk d + uptoBulkAll r
def uptoBulkEntries {H : Type} : List (Lit × DataW H) → Nat
  | [] => 0
  | x :: r => uptoBulkEntry x + uptoBulkEntries r
def uptoBulkEntry {H : Type} : Lit × DataW H → Nat
  | (.string bytes, d) => bytes.length + uptoBulk d + 1
  | (_, d) => uptoBulk d + 1
 end
def uptoSmall : (H : Type) → List (DataW H) → Bool := fun _ ds => decide (uptoBulkAll ds ≤ 1048576)
def OpenSpec.upto (s : _root_.Go.ChangeSpec) : _root_.Go.OpenSpec := { _root_.Go.OpenSpec.ofChange s with cond := some uptoSmall }

/-- 'sextonlaw04.FrameSeals', WHERE WHAT IT READS IS OF BULK AT MOST 1048576: true; the input reads as it did. -/
def frameSealsUptoRow : OpenClaim := { program := "ytgcjilifmcianaadoor", sum := "da32467f8aab71b06507a70a3aabea70224d177ea8a754ff4a87f3c9f6a8e286", func := "sexton/sextonlaw04.FrameSeals", spec := "frameSeals", named := ["sexton/tag.regions", "sexton/octet.bounds", "sexton/tag.widths", "sexton/crc.halves"], apart := false, laid := [("sexton/crc.halves", laid_sexton_crc_halves), ("sexton/octet.bounds", laid_sexton_octet_bounds), ("sexton/tag.regions", laid_sexton_tag_regions), ("sexton/tag.widths", laid_sexton_tag_widths)], narrowed := true }
def FrameSealsUptoSaid : Prop := frameSealsUptoRow.holds Tryd.pinned (OpenSpec.upto frameSealsSpec)

/-- 'sextonlaw04.FrameOpens', WHERE WHAT IT READS IS OF BULK AT MOST 1048576: true; the input reads as it did. -/
def frameOpensUptoRow : OpenClaim := { program := "ytgcjilifmcianaadoor", sum := "da32467f8aab71b06507a70a3aabea70224d177ea8a754ff4a87f3c9f6a8e286", func := "sexton/sextonlaw04.FrameOpens", spec := "frameOpens", inPlace := ["internal/bytealg.Count", "internal/bytealg.IndexByte", "internal/bytealg.Index"], named := ["internal/bytealg.MaxLen", "sexton/octet.bounds", "sexton/tag.widths", "sexton/tag.regions", "sexton/crc.halves"], apart := false, laid := [("sexton/crc.halves", laid_sexton_crc_halves), ("sexton/octet.bounds", laid_sexton_octet_bounds), ("sexton/tag.regions", laid_sexton_tag_regions), ("sexton/tag.widths", laid_sexton_tag_widths)], narrowed := true }
def FrameOpensUptoSaid : Prop := frameOpensUptoRow.holds Tryd.pinned (OpenSpec.upto frameOpensSpec)

/-- 'sextonlaw04.FrameBack', WHERE WHAT IT READS IS OF BULK AT MOST 1048576: true; the input reads as it did. -/
def frameBackUptoRow : OpenClaim := { program := "ytgcjilifmcianaadoor", sum := "da32467f8aab71b06507a70a3aabea70224d177ea8a754ff4a87f3c9f6a8e286", func := "sexton/sextonlaw04.FrameBack", spec := "frameBack", inPlace := ["internal/bytealg.Count", "internal/bytealg.IndexByte", "internal/bytealg.Index"], named := ["sexton/tag.regions", "sexton/octet.bounds", "sexton/tag.widths", "sexton/crc.halves", "internal/bytealg.MaxLen"], apart := false, laid := [("sexton/crc.halves", laid_sexton_crc_halves), ("sexton/octet.bounds", laid_sexton_octet_bounds), ("sexton/tag.regions", laid_sexton_tag_regions), ("sexton/tag.widths", laid_sexton_tag_widths)], narrowed := true }
def FrameBackUptoSaid : Prop := frameBackUptoRow.holds Tryd.pinned (OpenSpec.upto frameBackSpec)

/-- 'sextonlaw04.FrameSpoilt', WHERE WHAT IT READS IS OF BULK AT MOST 1048576: true; the input reads as it did. -/
def frameSpoiltUptoRow : OpenClaim := { program := "ytgcjilifmcianaadoor", sum := "da32467f8aab71b06507a70a3aabea70224d177ea8a754ff4a87f3c9f6a8e286", func := "sexton/sextonlaw04.FrameSpoilt", spec := "frameSpoilt", inPlace := ["internal/bytealg.Count", "internal/bytealg.IndexByte", "internal/bytealg.Index"], named := ["sexton/tag.regions", "sexton/octet.bounds", "sexton/tag.widths", "sexton/crc.halves", "internal/bytealg.MaxLen"], apart := false, laid := [("sexton/crc.halves", laid_sexton_crc_halves), ("sexton/octet.bounds", laid_sexton_octet_bounds), ("sexton/tag.regions", laid_sexton_tag_regions), ("sexton/tag.widths", laid_sexton_tag_widths)], narrowed := true }
def FrameSpoiltUptoSaid : Prop := frameSpoiltUptoRow.holds Tryd.pinned (OpenSpec.upto frameSpoiltSpec)

/-- 'sextonlaw04.FrameNear', WHERE WHAT IT READS IS OF BULK AT MOST 1048576: true; the input reads as it did. -/
def frameNearUptoRow : OpenClaim := { program := "ytgcjilifmcianaadoor", sum := "da32467f8aab71b06507a70a3aabea70224d177ea8a754ff4a87f3c9f6a8e286", func := "sexton/sextonlaw04.FrameNear", spec := "frameNear", inPlace := ["internal/bytealg.Count", "internal/bytealg.IndexByte", "internal/bytealg.Index"], named := ["sexton/tag.regions", "sexton/octet.bounds", "sexton/tag.widths", "sexton/crc.halves", "internal/bytealg.MaxLen"], apart := false, laid := [("sexton/crc.halves", laid_sexton_crc_halves), ("sexton/octet.bounds", laid_sexton_octet_bounds), ("sexton/tag.regions", laid_sexton_tag_regions), ("sexton/tag.widths", laid_sexton_tag_widths)], narrowed := true }
def FrameNearUptoSaid : Prop := frameNearUptoRow.holds Tryd.pinned (OpenSpec.upto frameNearSpec)

/-- 'sextonlaw04.FrameElsewhere', WHERE WHAT IT READS IS OF BULK AT MOST 1048576: true; the input reads as it did. -/
def frameElsewhereUptoRow : OpenClaim := { program := "ytgcjilifmcianaadoor", sum := "da32467f8aab71b06507a70a3aabea70224d177ea8a754ff4a87f3c9f6a8e286", func := "sexton/sextonlaw04.FrameElsewhere", spec := "frameElsewhere", inPlace := ["internal/bytealg.Count", "internal/bytealg.IndexByte", "internal/bytealg.Index"], named := ["sexton/tag.regions", "sexton/octet.bounds", "sexton/tag.widths", "sexton/crc.halves", "internal/bytealg.MaxLen"], apart := false, laid := [("sexton/crc.halves", laid_sexton_crc_halves), ("sexton/octet.bounds", laid_sexton_octet_bounds), ("sexton/tag.regions", laid_sexton_tag_regions), ("sexton/tag.widths", laid_sexton_tag_widths)], narrowed := true }
def FrameElsewhereUptoSaid : Prop := frameElsewhereUptoRow.holds Tryd.pinned (OpenSpec.upto frameElsewhereSpec)

/-- 'sextonlaw04.FrameCut', WHERE WHAT IT READS IS OF BULK AT MOST 1048576: true; the input reads as it did. -/
def frameCutUptoRow : OpenClaim := { program := "ytgcjilifmcianaadoor", sum := "da32467f8aab71b06507a70a3aabea70224d177ea8a754ff4a87f3c9f6a8e286", func := "sexton/sextonlaw04.FrameCut", spec := "frameCut", inPlace := ["internal/bytealg.Count", "internal/bytealg.IndexByte", "internal/bytealg.Index"], named := ["sexton/tag.regions", "sexton/octet.bounds", "sexton/tag.widths", "sexton/crc.halves", "internal/bytealg.MaxLen"], apart := false, laid := [("sexton/crc.halves", laid_sexton_crc_halves), ("sexton/octet.bounds", laid_sexton_octet_bounds), ("sexton/tag.regions", laid_sexton_tag_regions), ("sexton/tag.widths", laid_sexton_tag_widths)], narrowed := true }
def FrameCutUptoSaid : Prop := frameCutUptoRow.holds Tryd.pinned (OpenSpec.upto frameCutSpec)

end Rows
end Go.Proofs.YtgcjilifmcianaaDoor
