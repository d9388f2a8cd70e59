/-
  DERIVED. GIVEN WITH THE SEED: THE CARDS: each row of YtlfdagajfhikhaaDoorRows.lean that lists a variable, with what it lists TIED to the program's text (the seventh form; the later family's looks); each row that meets fmt, with fmt's text TOLD by the authors' own Lean function (tested against real Go, not proved from fmt's source: count such statements apart). THE CARD IS WHAT COUNTS. Prove the row's statement (the work); the ties are given (YtlfdagajfhikhaaDoorTie.lean); close each card by the builder's one call (the guide's Derived/Test/ToyasCard.lean, 'card_holds'). Laid BY PROGRAM, IN A SANDBOX (cutbox-door.mjs). By AI agents, Wed Nov 11 2026. No macro, syntax, notation, axiom, sorry.
-/
import Derived.Test.YtlfdagajfhikhaaDoorRows
import GoSem.ClaimSeven
namespace Go.Proofs.YtlfdagajfhikhaaDoor
namespace Rows

/-- THE TIED CARD OF 'sextonlaw03.TagForms'. -/
def tagFormsCard : Claim7 := { stood := { row := tagFormsRow, standIns := [], harness := (true, "bc585aa7efa7a8b03703d98e4831a957d7d51d19017d3564b757b0d79f3128fe"), looks := false }, kinds := [], alts := [], laidByText := true, laidKinds := [.data, .data, .data], laidTests := true, laidLooks := .later }
def TagFormsCardSaid : Prop := Claim7.holds Tryd.pinned (.plain (OpenSpec.ofChange tagFormsSpec)) tagFormsCard

/-- THE TIED CARD OF 'sextonlaw03.TagPlaces'. -/
def tagPlacesCard : Claim7 := { stood := { row := tagPlacesRow, standIns := [], harness := (true, "bc585aa7efa7a8b03703d98e4831a957d7d51d19017d3564b757b0d79f3128fe"), looks := false }, kinds := [], alts := [], laidByText := true, laidKinds := [.data], laidTests := true, laidLooks := .later }
def TagPlacesCardSaid : Prop := Claim7.holds Tryd.pinned (.plain (OpenSpec.ofChange tagPlacesSpec)) tagPlacesCard

/-- THE TIED CARD OF 'sextonlaw03.TagBack'. -/
def tagBackCard : Claim7 := { stood := { row := tagBackRow, standIns := [], harness := (true, "bc585aa7efa7a8b03703d98e4831a957d7d51d19017d3564b757b0d79f3128fe"), looks := false }, kinds := [], alts := [], laidByText := true, laidKinds := [.data, .data, .data], laidTests := true, laidLooks := .later }
def TagBackCardSaid : Prop := Claim7.holds Tryd.pinned (.plain (OpenSpec.ofChange tagBackSpec)) tagBackCard

/-- THE TIED CARD OF 'sextonlaw03.TagWhere'. -/
def tagWhereCard : Claim7 := { stood := { row := tagWhereRow, standIns := [], harness := (true, "bc585aa7efa7a8b03703d98e4831a957d7d51d19017d3564b757b0d79f3128fe"), looks := false }, kinds := [], alts := [], laidByText := true, laidKinds := [.data, .data, .data], laidTests := true, laidLooks := .later }
def TagWhereCardSaid : Prop := Claim7.holds Tryd.pinned (.plain (OpenSpec.ofChange tagWhereSpec)) tagWhereCard

/-- THE TIED CARD OF 'sextonlaw03.TagWrong'. -/
def tagWrongCard : Claim7 := { stood := { row := tagWrongRow, standIns := [], harness := (true, "bc585aa7efa7a8b03703d98e4831a957d7d51d19017d3564b757b0d79f3128fe"), looks := false }, kinds := [], alts := [], laidByText := true, laidKinds := [.data, .data, .data], laidTests := true, laidLooks := .later }
def TagWrongCardSaid : Prop := Claim7.holds Tryd.pinned (.plain (OpenSpec.ofChange tagWrongSpec)) tagWrongCard

/-- THE TIED CARD OF 'sextonlaw03.TagCut'. -/
def tagCutCard : Claim7 := { stood := { row := tagCutRow, standIns := [], harness := (true, "bc585aa7efa7a8b03703d98e4831a957d7d51d19017d3564b757b0d79f3128fe"), looks := false }, kinds := [], alts := [], laidByText := true, laidKinds := [.data, .data, .data], laidTests := true, laidLooks := .later }
def TagCutCardSaid : Prop := Claim7.holds Tryd.pinned (.plain (OpenSpec.ofChange tagCutSpec)) tagCutCard

/-- THE SECOND FORM's CARD OF 'sextonlaw03.TagForms'. -/
def tagFormsUptoCard : Claim7 := { stood := { row := tagFormsUptoRow, standIns := [], harness := (true, "bc585aa7efa7a8b03703d98e4831a957d7d51d19017d3564b757b0d79f3128fe"), looks := false }, kinds := [], alts := [], laidByText := true, laidKinds := [.data, .data, .data], laidTests := true, laidLooks := .later }
def TagFormsUptoCardSaid : Prop := Claim7.holds Tryd.pinned (.plain (OpenSpec.upto tagFormsSpec)) tagFormsUptoCard

/-- THE SECOND FORM's CARD OF 'sextonlaw03.TagPlaces'. -/
def tagPlacesUptoCard : Claim7 := { stood := { row := tagPlacesUptoRow, standIns := [], harness := (true, "bc585aa7efa7a8b03703d98e4831a957d7d51d19017d3564b757b0d79f3128fe"), looks := false }, kinds := [], alts := [], laidByText := true, laidKinds := [.data], laidTests := true, laidLooks := .later }
def TagPlacesUptoCardSaid : Prop := Claim7.holds Tryd.pinned (.plain (OpenSpec.upto tagPlacesSpec)) tagPlacesUptoCard

/-- THE SECOND FORM's CARD OF 'sextonlaw03.TagBack'. -/
def tagBackUptoCard : Claim7 := { stood := { row := tagBackUptoRow, standIns := [], harness := (true, "bc585aa7efa7a8b03703d98e4831a957d7d51d19017d3564b757b0d79f3128fe"), looks := false }, kinds := [], alts := [], laidByText := true, laidKinds := [.data, .data, .data], laidTests := true, laidLooks := .later }
def TagBackUptoCardSaid : Prop := Claim7.holds Tryd.pinned (.plain (OpenSpec.upto tagBackSpec)) tagBackUptoCard

/-- THE SECOND FORM's CARD OF 'sextonlaw03.TagWhere'. -/
def tagWhereUptoCard : Claim7 := { stood := { row := tagWhereUptoRow, standIns := [], harness := (true, "bc585aa7efa7a8b03703d98e4831a957d7d51d19017d3564b757b0d79f3128fe"), looks := false }, kinds := [], alts := [], laidByText := true, laidKinds := [.data, .data, .data], laidTests := true, laidLooks := .later }
def TagWhereUptoCardSaid : Prop := Claim7.holds Tryd.pinned (.plain (OpenSpec.upto tagWhereSpec)) tagWhereUptoCard

/-- THE SECOND FORM's CARD OF 'sextonlaw03.TagWrong'. -/
def tagWrongUptoCard : Claim7 := { stood := { row := tagWrongUptoRow, standIns := [], harness := (true, "bc585aa7efa7a8b03703d98e4831a957d7d51d19017d3564b757b0d79f3128fe"), looks := false }, kinds := [], alts := [], laidByText := true, laidKinds := [.data, .data, .data], laidTests := true, laidLooks := .later }
def TagWrongUptoCardSaid : Prop := Claim7.holds Tryd.pinned (.plain (OpenSpec.upto tagWrongSpec)) tagWrongUptoCard

/-- THE SECOND FORM's CARD OF 'sextonlaw03.TagCut'. -/
def tagCutUptoCard : Claim7 := { stood := { row := tagCutUptoRow, standIns := [], harness := (true, "bc585aa7efa7a8b03703d98e4831a957d7d51d19017d3564b757b0d79f3128fe"), looks := false }, kinds := [], alts := [], laidByText := true, laidKinds := [.data, .data, .data], laidTests := true, laidLooks := .later }
def TagCutUptoCardSaid : Prop := Claim7.holds Tryd.pinned (.plain (OpenSpec.upto tagCutSpec)) tagCutUptoCard
end Rows
end Go.Proofs.YtlfdagajfhikhaaDoor
