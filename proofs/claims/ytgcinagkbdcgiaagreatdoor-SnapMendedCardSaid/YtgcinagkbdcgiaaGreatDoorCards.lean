/-
  DERIVED. GIVEN WITH THE SEED: THE CARDS: each row of YtgcinagkbdcgiaaGreatDoorRows.lean that lists a variable, with what it lists TIED to the program's text (the seventh form; the later family's looks); each row that meets fmt, with fmt's text TOLD by the authors' own Lean function (tested against real Go, not proved from fmt's source: count such statements apart). THE CARD IS WHAT COUNTS. Prove the row's statement (the work); the ties are given (YtgcinagkbdcgiaaGreatDoorTie.lean); close each card by the builder's one call (the guide's Derived/Test/ToyasCard.lean, 'card_holds'). Laid BY PROGRAM, IN A SANDBOX (cutbox-door.mjs). By AI agents, Wed Nov 11 2026. No macro, syntax, notation, axiom, sorry.
-/
import Derived.Test.YtgcinagkbdcgiaaGreatDoorRows
import GoSem.ClaimSeven
namespace Go.Proofs.YtgcinagkbdcgiaaGreatDoor
namespace Rows

/-- THE TIED CARD OF 'sextonlaw11.WalPlays'. -/
def walPlaysCard : Claim7 := { stood := { row := walPlaysRow, standIns := [], harness := (true, "888c36ed8377c11e2f5b08292dceb4982f9d873003449ab44253b140e9709804"), looks := false }, kinds := [], alts := [], laidByText := true, laidKinds := [.data, .data, .data, .data, .data], laidTests := true, laidLooks := .later }
def WalPlaysCardSaid : Prop := Claim7.holds Tryz.pinned (.plain (OpenSpec.ofChange walPlaysSpec)) walPlaysCard

/-- THE TIED CARD OF 'sextonlaw13.SnapPlays'. -/
def snapPlaysCard : Claim7 := { stood := { row := snapPlaysRow, standIns := [], harness := (true, "888c36ed8377c11e2f5b08292dceb4982f9d873003449ab44253b140e9709804"), looks := false }, kinds := [], alts := [], laidByText := true, laidKinds := [.data, .data, .data, .data, .data], laidTests := true, laidLooks := .later }
def SnapPlaysCardSaid : Prop := Claim7.holds Tryz.pinned (.plain (OpenSpec.ofChange snapPlaysSpec)) snapPlaysCard

/-- THE TIED CARD OF 'sextonlaw13.SnapEither'. -/
def snapEitherCard : Claim7 := { stood := { row := snapEitherRow, standIns := [], harness := (true, "888c36ed8377c11e2f5b08292dceb4982f9d873003449ab44253b140e9709804"), looks := false }, kinds := [], alts := [], laidByText := true, laidKinds := [.data, .data, .data, .data, .data], laidTests := true, laidLooks := .later }
def SnapEitherCardSaid : Prop := Claim7.holds Tryz.pinned (.plain (OpenSpec.ofChange snapEitherSpec)) snapEitherCard

/-- THE TIED CARD OF 'sextonlaw13.SnapNothing'. -/
def snapNothingCard : Claim7 := { stood := { row := snapNothingRow, standIns := [], harness := (true, "888c36ed8377c11e2f5b08292dceb4982f9d873003449ab44253b140e9709804"), looks := false }, kinds := [], alts := [], laidByText := true, laidKinds := [.data, .data, .data, .data, .data], laidTests := true, laidLooks := .later }
def SnapNothingCardSaid : Prop := Claim7.holds Tryz.pinned (.plain (OpenSpec.ofChange snapNothingSpec)) snapNothingCard

/-- THE TIED CARD OF 'sextonlaw13.SnapMended'. -/
def snapMendedCard : Claim7 := { stood := { row := snapMendedRow, standIns := [], harness := (true, "888c36ed8377c11e2f5b08292dceb4982f9d873003449ab44253b140e9709804"), looks := false }, kinds := [], alts := [], laidByText := true, laidKinds := [.data, .data, .data, .data, .data], laidTests := true, laidLooks := .later }
def SnapMendedCardSaid : Prop := Claim7.holds Tryz.pinned (.plain (OpenSpec.ofChange snapMendedSpec)) snapMendedCard

/-- THE TIED CARD OF 'sextonlaw13.SnapRises'. -/
def snapRisesCard : Claim7 := { stood := { row := snapRisesRow, standIns := [], harness := (true, "888c36ed8377c11e2f5b08292dceb4982f9d873003449ab44253b140e9709804"), looks := false }, kinds := [], alts := [], laidByText := true, laidKinds := [.data, .data, .data, .data, .data], laidTests := true, laidLooks := .later }
def SnapRisesCardSaid : Prop := Claim7.holds Tryz.pinned (.plain (OpenSpec.ofChange snapRisesSpec)) snapRisesCard

/-- THE SECOND FORM's CARD OF 'sextonlaw11.WalPlays'. -/
def walPlaysUptoCard : Claim7 := { stood := { row := walPlaysUptoRow, standIns := [], harness := (true, "888c36ed8377c11e2f5b08292dceb4982f9d873003449ab44253b140e9709804"), looks := false }, kinds := [], alts := [], laidByText := true, laidKinds := [.data, .data, .data, .data, .data], laidTests := true, laidLooks := .later }
def WalPlaysUptoCardSaid : Prop := Claim7.holds Tryz.pinned (.plain (OpenSpec.upto walPlaysSpec)) walPlaysUptoCard

/-- THE SECOND FORM's CARD OF 'sextonlaw13.SnapPlays'. -/
def snapPlaysUptoCard : Claim7 := { stood := { row := snapPlaysUptoRow, standIns := [], harness := (true, "888c36ed8377c11e2f5b08292dceb4982f9d873003449ab44253b140e9709804"), looks := false }, kinds := [], alts := [], laidByText := true, laidKinds := [.data, .data, .data, .data, .data], laidTests := true, laidLooks := .later }
def SnapPlaysUptoCardSaid : Prop := Claim7.holds Tryz.pinned (.plain (OpenSpec.upto snapPlaysSpec)) snapPlaysUptoCard

/-- THE SECOND FORM's CARD OF 'sextonlaw13.SnapEither'. -/
def snapEitherUptoCard : Claim7 := { stood := { row := snapEitherUptoRow, standIns := [], harness := (true, "888c36ed8377c11e2f5b08292dceb4982f9d873003449ab44253b140e9709804"), looks := false }, kinds := [], alts := [], laidByText := true, laidKinds := [.data, .data, .data, .data, .data], laidTests := true, laidLooks := .later }
def SnapEitherUptoCardSaid : Prop := Claim7.holds Tryz.pinned (.plain (OpenSpec.upto snapEitherSpec)) snapEitherUptoCard

/-- THE SECOND FORM's CARD OF 'sextonlaw13.SnapNothing'. -/
def snapNothingUptoCard : Claim7 := { stood := { row := snapNothingUptoRow, standIns := [], harness := (true, "888c36ed8377c11e2f5b08292dceb4982f9d873003449ab44253b140e9709804"), looks := false }, kinds := [], alts := [], laidByText := true, laidKinds := [.data, .data, .data, .data, .data], laidTests := true, laidLooks := .later }
def SnapNothingUptoCardSaid : Prop := Claim7.holds Tryz.pinned (.plain (OpenSpec.upto snapNothingSpec)) snapNothingUptoCard

/-- THE SECOND FORM's CARD OF 'sextonlaw13.SnapMended'. -/
def snapMendedUptoCard : Claim7 := { stood := { row := snapMendedUptoRow, standIns := [], harness := (true, "888c36ed8377c11e2f5b08292dceb4982f9d873003449ab44253b140e9709804"), looks := false }, kinds := [], alts := [], laidByText := true, laidKinds := [.data, .data, .data, .data, .data], laidTests := true, laidLooks := .later }
def SnapMendedUptoCardSaid : Prop := Claim7.holds Tryz.pinned (.plain (OpenSpec.upto snapMendedSpec)) snapMendedUptoCard

/-- THE SECOND FORM's CARD OF 'sextonlaw13.SnapRises'. -/
def snapRisesUptoCard : Claim7 := { stood := { row := snapRisesUptoRow, standIns := [], harness := (true, "888c36ed8377c11e2f5b08292dceb4982f9d873003449ab44253b140e9709804"), looks := false }, kinds := [], alts := [], laidByText := true, laidKinds := [.data, .data, .data, .data, .data], laidTests := true, laidLooks := .later }
def SnapRisesUptoCardSaid : Prop := Claim7.holds Tryz.pinned (.plain (OpenSpec.upto snapRisesSpec)) snapRisesUptoCard
end Rows
end Go.Proofs.YtgcinagkbdcgiaaGreatDoor
