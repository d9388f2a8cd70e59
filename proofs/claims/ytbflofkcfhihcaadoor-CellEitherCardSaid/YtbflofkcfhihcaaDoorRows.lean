/-
  NARROWER THAN 'FOR EVERY INPUT', by the rows' own cells (each row's printed sentence says how): CellNone: laid · CellEither: laid · CellHealed: laid · CellOne: laid · CellApart: laid.
  DERIVED. THE GIVEN ROWS OF THIS SEAT. 5 by the template 'for every input the law returns true; each argument reads behind the call as it read before'; 0 by the template 'total and deterministic' (their statements: YtbflofkcfhihcaaDoorTotals.lean).
  GIVEN WITH THE SEED: the statements are not yours to turn. If you find one false, say at which input.
  Laid BY PROGRAM, IN A SANDBOX (cutbox-rows.mjs): the forced cells as the released guide's own fill.sh prints them over the translation b7fb45e78d7e7840… (all of the seat's roots in one cut). By AI agents, Wed Nov 11 2026. No macro, syntax, notation, axiom, sorry.
-/
import Derived.Test.YtbflofkcfhihcaaDoorChecked
import GoSem.Claim
import GoSem.ClaimJoined
import GoSem.ClaimMapViews
import Derived.JoinedTies
import Derived.KernelRfl
namespace Go.Proofs.YtbflofkcfhihcaaDoor
/- THE CELL 'sum', in the pinned program and in every row, IS THE sha256 OF THE DUMP (.gsa) THAT YtbflofkcfhihcaaDoorProg.lean LOADS. Nothing in Lean hashes anything: it is a label: what it is worth is what the hold of that sum in a sandbox is worth. -/
noncomputable def Tryd.pinned : Pinned := { name := "ytbflofkcfhihcaadoor", sum := "b7fb45e78d7e7840ecf129871fe19b4e278ed593b6b05a1982c36c5aa334d5c1", checked := Tryd.checked }
namespace Rows
def none {H : Type} : Left H := { results := [], args := [] }

/- WHAT THE LISTED PACKAGE-LEVEL VARIABLES READ AS WHEN THE CALL BEGINS. Each datum BY PROGRAM (the guide's laid-datum.mjs) off the statement by which the dump's own 'gosem.cut.vars' lays the variable. In a bare row this is a premise. The card (YtbflofkcfhihcaaDoorCards.lean) ties it to the program's text. -/
def laid_sexton_crc_halves {H : Type} : DataW H := .agg [.lit (.int .u32 0), .lit (.int .u32 274646895), .lit (.int .u32 549293790), .lit (.int .u32 820201905), .lit (.int .u32 1098587580), .lit (.int .u32 1361435347), .lit (.int .u32 1640403810), .lit (.int .u32 1905808397), .lit (.int .u32 2197175160), .lit (.int .u32 2460548119), .lit (.int .u32 2722870694), .lit (.int .u32 2987750089), .lit (.int .u32 3280807620), .lit (.int .u32 3553878443), .lit (.int .u32 3811616794), .lit (.int .u32 4084100981)]
def laid_sexton_octet_bounds {H : Type} : DataW H := .agg [.lit (.int .i64 0), .lit (.int .i64 256), .lit (.int .i64 65536), .lit (.int .i64 0), .lit (.int .i64 4294967296), .lit (.int .i64 0), .lit (.int .i64 281474976710656)]
def laid_sexton_tag_regions {H : Type} : DataW H := .agg [.agg [.lit (.int .i64 0), .lit (.int .i64 0)], .agg [.lit (.int .i64 2), .lit (.int .i64 1)], .agg [.lit (.int .i64 2), .lit (.int .i64 1)], .agg [.lit (.int .i64 24), .lit (.int .i64 1)], .agg [.lit (.int .i64 48), .lit (.int .i64 2)], .agg [.lit (.int .i64 16), .lit (.int .i64 2)]]
def laid_sexton_tag_widths {H : Type} : DataW H := .agg [.lit (.int .i64 1), .lit (.int .i64 1), .lit (.int .i64 1), .lit (.int .i64 6), .lit (.int .i64 6)]

/-- 'sextonlaw07.CellNone': WHATEVER THE INPUT: true; the input reads as it did. -/
def cellNoneSpec : ChangeSpec := { name := "cellNone", fn := fun _ => fun
  | [d1, d2, d3, d4, d5] => { results := [.lit (.bool true)], args := [d1, d2, d3, d4, d5] }
  | _ => none }
def cellNoneRow : OpenClaim := { program := "ytbflofkcfhihcaadoor", sum := "b7fb45e78d7e7840ecf129871fe19b4e278ed593b6b05a1982c36c5aa334d5c1", func := "sexton/sextonlaw07.CellNone", spec := "cellNone", inPlace := ["internal/bytealg.Count", "internal/bytealg.IndexByte", "internal/bytealg.Index"], unfollowed := true, recurses := true, named := ["sexton/tag.regions", "internal/bytealg.MaxLen", "sexton/octet.bounds", "sexton/tag.widths", "sexton/crc.halves"], apart := false, laid := [("sexton/crc.halves", laid_sexton_crc_halves), ("sexton/octet.bounds", laid_sexton_octet_bounds), ("sexton/tag.regions", laid_sexton_tag_regions), ("sexton/tag.widths", laid_sexton_tag_widths)] }
def CellNoneSaid : Prop := cellNoneRow.holds Tryd.pinned (OpenSpec.ofChange cellNoneSpec)

/-- ITS FALSE NEIGHBOUR: 'it returns false'. Refute it at one input. -/
def cellNoneWrong : ChangeSpec := { name := "cellNone", fn := fun _ => fun
  | [d1, d2, d3, d4, d5] => { results := [.lit (.bool false)], args := [d1, d2, d3, d4, d5] }
  | _ => none }
def CellNoneWrongFalsely : Prop := cellNoneRow.holds Tryd.pinned (OpenSpec.ofChange cellNoneWrong)

/-- 'sextonlaw07.CellEither': WHATEVER THE INPUT: true; the input reads as it did. -/
def cellEitherSpec : ChangeSpec := { name := "cellEither", fn := fun _ => fun
  | [d1, d2, d3, d4, d5] => { results := [.lit (.bool true)], args := [d1, d2, d3, d4, d5] }
  | _ => none }
def cellEitherRow : OpenClaim := { program := "ytbflofkcfhihcaadoor", sum := "b7fb45e78d7e7840ecf129871fe19b4e278ed593b6b05a1982c36c5aa334d5c1", func := "sexton/sextonlaw07.CellEither", spec := "cellEither", inPlace := ["internal/bytealg.Count", "internal/bytealg.IndexByte", "internal/bytealg.Index"], unfollowed := true, recurses := true, named := ["sexton/tag.regions", "internal/bytealg.MaxLen", "sexton/octet.bounds", "sexton/tag.widths", "sexton/crc.halves"], apart := false, laid := [("sexton/crc.halves", laid_sexton_crc_halves), ("sexton/octet.bounds", laid_sexton_octet_bounds), ("sexton/tag.regions", laid_sexton_tag_regions), ("sexton/tag.widths", laid_sexton_tag_widths)] }
def CellEitherSaid : Prop := cellEitherRow.holds Tryd.pinned (OpenSpec.ofChange cellEitherSpec)

/-- ITS FALSE NEIGHBOUR: 'it returns false'. Refute it at one input. -/
def cellEitherWrong : ChangeSpec := { name := "cellEither", fn := fun _ => fun
  | [d1, d2, d3, d4, d5] => { results := [.lit (.bool false)], args := [d1, d2, d3, d4, d5] }
  | _ => none }
def CellEitherWrongFalsely : Prop := cellEitherRow.holds Tryd.pinned (OpenSpec.ofChange cellEitherWrong)

/-- 'sextonlaw07.CellHealed': WHATEVER THE INPUT: true; the input reads as it did. -/
def cellHealedSpec : ChangeSpec := { name := "cellHealed", fn := fun _ => fun
  | [d1, d2, d3, d4, d5] => { results := [.lit (.bool true)], args := [d1, d2, d3, d4, d5] }
  | _ => none }
def cellHealedRow : OpenClaim := { program := "ytbflofkcfhihcaadoor", sum := "b7fb45e78d7e7840ecf129871fe19b4e278ed593b6b05a1982c36c5aa334d5c1", func := "sexton/sextonlaw07.CellHealed", spec := "cellHealed", inPlace := ["internal/bytealg.Count", "internal/bytealg.IndexByte", "internal/bytealg.Index"], unfollowed := true, recurses := true, named := ["sexton/tag.regions", "internal/bytealg.MaxLen", "sexton/octet.bounds", "sexton/tag.widths", "sexton/crc.halves"], apart := false, laid := [("sexton/crc.halves", laid_sexton_crc_halves), ("sexton/octet.bounds", laid_sexton_octet_bounds), ("sexton/tag.regions", laid_sexton_tag_regions), ("sexton/tag.widths", laid_sexton_tag_widths)] }
def CellHealedSaid : Prop := cellHealedRow.holds Tryd.pinned (OpenSpec.ofChange cellHealedSpec)

/-- ITS FALSE NEIGHBOUR: 'it returns false'. Refute it at one input. -/
def cellHealedWrong : ChangeSpec := { name := "cellHealed", fn := fun _ => fun
  | [d1, d2, d3, d4, d5] => { results := [.lit (.bool false)], args := [d1, d2, d3, d4, d5] }
  | _ => none }
def CellHealedWrongFalsely : Prop := cellHealedRow.holds Tryd.pinned (OpenSpec.ofChange cellHealedWrong)

/-- 'sextonlaw07.CellOne': WHATEVER THE INPUT: true; the input reads as it did. -/
def cellOneSpec : ChangeSpec := { name := "cellOne", fn := fun _ => fun
  | [d1, d2, d3, d4, d5] => { results := [.lit (.bool true)], args := [d1, d2, d3, d4, d5] }
  | _ => none }
def cellOneRow : OpenClaim := { program := "ytbflofkcfhihcaadoor", sum := "b7fb45e78d7e7840ecf129871fe19b4e278ed593b6b05a1982c36c5aa334d5c1", func := "sexton/sextonlaw07.CellOne", spec := "cellOne", inPlace := ["internal/bytealg.Count", "internal/bytealg.IndexByte", "internal/bytealg.Index"], unfollowed := true, recurses := true, named := ["sexton/tag.regions", "internal/bytealg.MaxLen", "sexton/octet.bounds", "sexton/tag.widths", "sexton/crc.halves"], apart := false, laid := [("sexton/crc.halves", laid_sexton_crc_halves), ("sexton/octet.bounds", laid_sexton_octet_bounds), ("sexton/tag.regions", laid_sexton_tag_regions), ("sexton/tag.widths", laid_sexton_tag_widths)] }
def CellOneSaid : Prop := cellOneRow.holds Tryd.pinned (OpenSpec.ofChange cellOneSpec)

/-- ITS FALSE NEIGHBOUR: 'it returns false'. Refute it at one input. -/
def cellOneWrong : ChangeSpec := { name := "cellOne", fn := fun _ => fun
  | [d1, d2, d3, d4, d5] => { results := [.lit (.bool false)], args := [d1, d2, d3, d4, d5] }
  | _ => none }
def CellOneWrongFalsely : Prop := cellOneRow.holds Tryd.pinned (OpenSpec.ofChange cellOneWrong)

/-- 'sextonlaw07.CellApart': WHATEVER THE INPUT: true; the input reads as it did. -/
def cellApartSpec : ChangeSpec := { name := "cellApart", fn := fun _ => fun
  | [d1, d2] => { results := [.lit (.bool true)], args := [d1, d2] }
  | _ => none }
def cellApartRow : OpenClaim := { program := "ytbflofkcfhihcaadoor", sum := "b7fb45e78d7e7840ecf129871fe19b4e278ed593b6b05a1982c36c5aa334d5c1", func := "sexton/sextonlaw07.CellApart", spec := "cellApart", inPlace := ["internal/bytealg.Count", "internal/bytealg.IndexByte", "internal/bytealg.Index"], unfollowed := true, recurses := true, named := ["sexton/tag.regions", "internal/bytealg.MaxLen", "sexton/octet.bounds", "sexton/tag.widths", "sexton/crc.halves"], apart := false, laid := [("sexton/crc.halves", laid_sexton_crc_halves), ("sexton/octet.bounds", laid_sexton_octet_bounds), ("sexton/tag.regions", laid_sexton_tag_regions), ("sexton/tag.widths", laid_sexton_tag_widths)] }
def CellApartSaid : Prop := cellApartRow.holds Tryd.pinned (OpenSpec.ofChange cellApartSpec)

/-- ITS FALSE NEIGHBOUR: 'it returns false'. Refute it at one input. -/
def cellApartWrong : ChangeSpec := { name := "cellApart", fn := fun _ => fun
  | [d1, d2] => { results := [.lit (.bool false)], args := [d1, d2] }
  | _ => none }
def CellApartWrongFalsely : Prop := cellApartRow.holds Tryd.pinned (OpenSpec.ofChange cellApartWrong)

/- THE SECOND FORM. 'bulk': how many values and letters a reading holds, each counted each time it is reached (what is shared counts as often as it is met; a slice's spare places count too). A statement '..UptoSaid' is the law's where the arguments, and the package variables that the reading takes, are together of bulk at most 1048576: NARROWER than '..Said'. Prove '..Said' where nothing that the law and all that it calls make is longer than what came in: it says more and counts as full. Else prove '..UptoSaid'. A law counts once. -/
mutual
def uptoBulk {H : Type} : DataW H → Nat
  | .lit (.string bytes) => bytes.length + 1
  | .lit _ => 1
  | .nil => 1
  | .ptr d => uptoBulk d + 1
  | .slice elems spare => uptoBulkAll elems + uptoBulkAll spare + 1
  | .agg parts => uptoBulkAll parts + 1
  | .iface _ d => uptoBulk d + 1
  | .map entries => uptoBulkEntries entries + 1
  | .held _ => 1
def uptoBulkAll {H : Type} : List (DataW H) → Nat
  | [] => 0
  | d :: r => uptoBulk d + uptoBulkAll r
def uptoBulkEntries {H : Type} : List (Lit × DataW H) → Nat
  | [] => 0
  | x :: r => uptoBulkEntry x + uptoBulkEntries r
def uptoBulkEntry {H : Type} : Lit × DataW H → Nat
  | (.string bytes, d) => bytes.length + uptoBulk d + 1
  | (_, d) => uptoBulk d + 1
 end
def uptoSmall : (H : Type) → List (DataW H) → Bool := fun _ ds => decide (uptoBulkAll ds ≤ 1048576)
def OpenSpec.upto (s : _root_.Go.ChangeSpec) : _root_.Go.OpenSpec := { _root_.Go.OpenSpec.ofChange s with cond := some uptoSmall }

/-- 'sextonlaw07.CellNone', WHERE WHAT IT READS IS OF BULK AT MOST 1048576: true; the input reads as it did. -/
def cellNoneUptoRow : OpenClaim := { program := "ytbflofkcfhihcaadoor", sum := "b7fb45e78d7e7840ecf129871fe19b4e278ed593b6b05a1982c36c5aa334d5c1", func := "sexton/sextonlaw07.CellNone", spec := "cellNone", inPlace := ["internal/bytealg.Count", "internal/bytealg.IndexByte", "internal/bytealg.Index"], unfollowed := true, recurses := true, named := ["sexton/tag.regions", "internal/bytealg.MaxLen", "sexton/octet.bounds", "sexton/tag.widths", "sexton/crc.halves"], apart := false, laid := [("sexton/crc.halves", laid_sexton_crc_halves), ("sexton/octet.bounds", laid_sexton_octet_bounds), ("sexton/tag.regions", laid_sexton_tag_regions), ("sexton/tag.widths", laid_sexton_tag_widths)], narrowed := true }
def CellNoneUptoSaid : Prop := cellNoneUptoRow.holds Tryd.pinned (OpenSpec.upto cellNoneSpec)

/-- 'sextonlaw07.CellEither', WHERE WHAT IT READS IS OF BULK AT MOST 1048576: true; the input reads as it did. -/
def cellEitherUptoRow : OpenClaim := { program := "ytbflofkcfhihcaadoor", sum := "b7fb45e78d7e7840ecf129871fe19b4e278ed593b6b05a1982c36c5aa334d5c1", func := "sexton/sextonlaw07.CellEither", spec := "cellEither", inPlace := ["internal/bytealg.Count", "internal/bytealg.IndexByte", "internal/bytealg.Index"], unfollowed := true, recurses := true, named := ["sexton/tag.regions", "internal/bytealg.MaxLen", "sexton/octet.bounds", "sexton/tag.widths", "sexton/crc.halves"], apart := false, laid := [("sexton/crc.halves", laid_sexton_crc_halves), ("sexton/octet.bounds", laid_sexton_octet_bounds), ("sexton/tag.regions", laid_sexton_tag_regions), ("sexton/tag.widths", laid_sexton_tag_widths)], narrowed := true }
def CellEitherUptoSaid : Prop := cellEitherUptoRow.holds Tryd.pinned (OpenSpec.upto cellEitherSpec)

/-- 'sextonlaw07.CellHealed', WHERE WHAT IT READS IS OF BULK AT MOST 1048576: true; the input reads as it did. -/
def cellHealedUptoRow : OpenClaim := { program := "ytbflofkcfhihcaadoor", sum := "b7fb45e78d7e7840ecf129871fe19b4e278ed593b6b05a1982c36c5aa334d5c1", func := "sexton/sextonlaw07.CellHealed", spec := "cellHealed", inPlace := ["internal/bytealg.Count", "internal/bytealg.IndexByte", "internal/bytealg.Index"], unfollowed := true, recurses := true, named := ["sexton/tag.regions", "internal/bytealg.MaxLen", "sexton/octet.bounds", "sexton/tag.widths", "sexton/crc.halves"], apart := false, laid := [("sexton/crc.halves", laid_sexton_crc_halves), ("sexton/octet.bounds", laid_sexton_octet_bounds), ("sexton/tag.regions", laid_sexton_tag_regions), ("sexton/tag.widths", laid_sexton_tag_widths)], narrowed := true }
def CellHealedUptoSaid : Prop := cellHealedUptoRow.holds Tryd.pinned (OpenSpec.upto cellHealedSpec)

/-- 'sextonlaw07.CellOne', WHERE WHAT IT READS IS OF BULK AT MOST 1048576: true; the input reads as it did. -/
def cellOneUptoRow : OpenClaim := { program := "ytbflofkcfhihcaadoor", sum := "b7fb45e78d7e7840ecf129871fe19b4e278ed593b6b05a1982c36c5aa334d5c1", func := "sexton/sextonlaw07.CellOne", spec := "cellOne", inPlace := ["internal/bytealg.Count", "internal/bytealg.IndexByte", "internal/bytealg.Index"], unfollowed := true, recurses := true, named := ["sexton/tag.regions", "internal/bytealg.MaxLen", "sexton/octet.bounds", "sexton/tag.widths", "sexton/crc.halves"], apart := false, laid := [("sexton/crc.halves", laid_sexton_crc_halves), ("sexton/octet.bounds", laid_sexton_octet_bounds), ("sexton/tag.regions", laid_sexton_tag_regions), ("sexton/tag.widths", laid_sexton_tag_widths)], narrowed := true }
def CellOneUptoSaid : Prop := cellOneUptoRow.holds Tryd.pinned (OpenSpec.upto cellOneSpec)

/-- 'sextonlaw07.CellApart', WHERE WHAT IT READS IS OF BULK AT MOST 1048576: true; the input reads as it did. -/
def cellApartUptoRow : OpenClaim := { program := "ytbflofkcfhihcaadoor", sum := "b7fb45e78d7e7840ecf129871fe19b4e278ed593b6b05a1982c36c5aa334d5c1", func := "sexton/sextonlaw07.CellApart", spec := "cellApart", inPlace := ["internal/bytealg.Count", "internal/bytealg.IndexByte", "internal/bytealg.Index"], unfollowed := true, recurses := true, named := ["sexton/tag.regions", "internal/bytealg.MaxLen", "sexton/octet.bounds", "sexton/tag.widths", "sexton/crc.halves"], apart := false, laid := [("sexton/crc.halves", laid_sexton_crc_halves), ("sexton/octet.bounds", laid_sexton_octet_bounds), ("sexton/tag.regions", laid_sexton_tag_regions), ("sexton/tag.widths", laid_sexton_tag_widths)], narrowed := true }
def CellApartUptoSaid : Prop := cellApartUptoRow.holds Tryd.pinned (OpenSpec.upto cellApartSpec)

end Rows
end Go.Proofs.YtbflofkcfhihcaaDoor
