/-
  DERIVED. GIVEN WITH THE SEED: THE CARDS: each row of YtbflofkcfhihcaaDoorRows.lean that lists a variable, with what it lists TIED to the program's text (the seventh form; the later family's looks); each row that meets fmt, with fmt's text TOLD by the authors' own Lean function (tested against real Go, not proved from fmt's source: count such statements apart). THE CARD IS WHAT COUNTS. Prove the row's statement (the work); the ties are given (YtbflofkcfhihcaaDoorTie.lean); close each card by the builder's one call (the guide's Derived/Test/ToyasCard.lean, 'card_holds'). Laid BY PROGRAM, IN A SANDBOX (cutbox-door.mjs). By AI agents, Wed Nov 11 2026. No macro, syntax, notation, axiom, sorry.
-/
import Derived.Test.YtbflofkcfhihcaaDoorRows
import GoSem.ClaimSeven
namespace Go.Proofs.YtbflofkcfhihcaaDoor
namespace Rows

/-- THE TIED CARD OF 'sextonlaw07.CellNone'. -/
def cellNoneCard : Claim7 := { stood := { row := cellNoneRow, standIns := [], harness := (true, "832f5ab05d4a8b65040e8788c356714c383943f0247f090d49efb7ad524bd015"), looks := false }, kinds := [], alts := [], laidByText := true, laidKinds := [.data, .data, .data, .data], laidTests := true, laidLooks := .later }
def CellNoneCardSaid : Prop := Claim7.holds Tryd.pinned (.plain (OpenSpec.ofChange cellNoneSpec)) cellNoneCard

/-- THE TIED CARD OF 'sextonlaw07.CellEither'. -/
def cellEitherCard : Claim7 := { stood := { row := cellEitherRow, standIns := [], harness := (true, "832f5ab05d4a8b65040e8788c356714c383943f0247f090d49efb7ad524bd015"), looks := false }, kinds := [], alts := [], laidByText := true, laidKinds := [.data, .data, .data, .data], laidTests := true, laidLooks := .later }
def CellEitherCardSaid : Prop := Claim7.holds Tryd.pinned (.plain (OpenSpec.ofChange cellEitherSpec)) cellEitherCard

/-- THE TIED CARD OF 'sextonlaw07.CellHealed'. -/
def cellHealedCard : Claim7 := { stood := { row := cellHealedRow, standIns := [], harness := (true, "832f5ab05d4a8b65040e8788c356714c383943f0247f090d49efb7ad524bd015"), looks := false }, kinds := [], alts := [], laidByText := true, laidKinds := [.data, .data, .data, .data], laidTests := true, laidLooks := .later }
def CellHealedCardSaid : Prop := Claim7.holds Tryd.pinned (.plain (OpenSpec.ofChange cellHealedSpec)) cellHealedCard

/-- THE TIED CARD OF 'sextonlaw07.CellOne'. -/
def cellOneCard : Claim7 := { stood := { row := cellOneRow, standIns := [], harness := (true, "832f5ab05d4a8b65040e8788c356714c383943f0247f090d49efb7ad524bd015"), looks := false }, kinds := [], alts := [], laidByText := true, laidKinds := [.data, .data, .data, .data], laidTests := true, laidLooks := .later }
def CellOneCardSaid : Prop := Claim7.holds Tryd.pinned (.plain (OpenSpec.ofChange cellOneSpec)) cellOneCard

/-- THE TIED CARD OF 'sextonlaw07.CellApart'. -/
def cellApartCard : Claim7 := { stood := { row := cellApartRow, standIns := [], harness := (true, "832f5ab05d4a8b65040e8788c356714c383943f0247f090d49efb7ad524bd015"), looks := false }, kinds := [], alts := [], laidByText := true, laidKinds := [.data, .data, .data, .data], laidTests := true, laidLooks := .later }
def CellApartCardSaid : Prop := Claim7.holds Tryd.pinned (.plain (OpenSpec.ofChange cellApartSpec)) cellApartCard

/-- THE SECOND FORM's CARD OF 'sextonlaw07.CellNone'. -/
def cellNoneUptoCard : Claim7 := { stood := { row := cellNoneUptoRow, standIns := [], harness := (true, "832f5ab05d4a8b65040e8788c356714c383943f0247f090d49efb7ad524bd015"), looks := false }, kinds := [], alts := [], laidByText := true, laidKinds := [.data, .data, .data, .data], laidTests := true, laidLooks := .later }
def CellNoneUptoCardSaid : Prop := Claim7.holds Tryd.pinned (.plain (OpenSpec.upto cellNoneSpec)) cellNoneUptoCard

/-- THE SECOND FORM's CARD OF 'sextonlaw07.CellEither'. -/
def cellEitherUptoCard : Claim7 := { stood := { row := cellEitherUptoRow, standIns := [], harness := (true, "832f5ab05d4a8b65040e8788c356714c383943f0247f090d49efb7ad524bd015"), looks := false }, kinds := [], alts := [], laidByText := true, laidKinds := [.data, .data, .data, .data], laidTests := true, laidLooks := .later }
def CellEitherUptoCardSaid : Prop := Claim7.holds Tryd.pinned (.plain (OpenSpec.upto cellEitherSpec)) cellEitherUptoCard

/-- THE SECOND FORM's CARD OF 'sextonlaw07.CellHealed'. -/
def cellHealedUptoCard : Claim7 := { stood := { row := cellHealedUptoRow, standIns := [], harness := (true, "832f5ab05d4a8b65040e8788c356714c383943f0247f090d49efb7ad524bd015"), looks := false }, kinds := [], alts := [], laidByText := true, laidKinds := [.data, .data, .data, .data], laidTests := true, laidLooks := .later }
def CellHealedUptoCardSaid : Prop := Claim7.holds Tryd.pinned (.plain (OpenSpec.upto cellHealedSpec)) cellHealedUptoCard

/-- THE SECOND FORM's CARD OF 'sextonlaw07.CellOne'. -/
def cellOneUptoCard : Claim7 := { stood := { row := cellOneUptoRow, standIns := [], harness := (true, "832f5ab05d4a8b65040e8788c356714c383943f0247f090d49efb7ad524bd015"), looks := false }, kinds := [], alts := [], laidByText := true, laidKinds := [.data, .data, .data, .data], laidTests := true, laidLooks := .later }
def CellOneUptoCardSaid : Prop := Claim7.holds Tryd.pinned (.plain (OpenSpec.upto cellOneSpec)) cellOneUptoCard

/-- THE SECOND FORM's CARD OF 'sextonlaw07.CellApart'. -/
def cellApartUptoCard : Claim7 := { stood := { row := cellApartUptoRow, standIns := [], harness := (true, "832f5ab05d4a8b65040e8788c356714c383943f0247f090d49efb7ad524bd015"), looks := false }, kinds := [], alts := [], laidByText := true, laidKinds := [.data, .data, .data, .data], laidTests := true, laidLooks := .later }
def CellApartUptoCardSaid : Prop := Claim7.holds Tryd.pinned (.plain (OpenSpec.upto cellApartSpec)) cellApartUptoCard
end Rows
end Go.Proofs.YtbflofkcfhihcaaDoor
