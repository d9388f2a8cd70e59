/-
  DERIVED. GIVEN WITH THE SEED: THE CARDS: each row of YtcnjhblboedbpaaDoorRows.lean that lists a variable, with what it lists TIED to the program's text (the seventh form; the later family's looks); each row that meets fmt, with fmt's text TOLD by the authors' own Lean function (tested against real Go, not proved from fmt's source: count such statements apart). THE CARD IS WHAT COUNTS. Prove the row's statement (the work); the ties are given (YtcnjhblboedbpaaDoorTie.lean); close each card by the builder's one call (the guide's Derived/Test/ToyasCard.lean, 'card_holds'). Laid BY PROGRAM, IN A SANDBOX (cutbox-door.mjs). By AI agents, Wed Nov 11 2026. No macro, syntax, notation, axiom, sorry.
-/
import Derived.Test.YtcnjhblboedbpaaDoorRows
import GoSem.ClaimSeven
namespace Go.Proofs.YtcnjhblboedbpaaDoor
namespace Rows

/-- THE TIED CARD OF 'sextonlaw01.OctetPuts'. -/
def octetPutsCard : Claim7 := { stood := { row := octetPutsRow, standIns := [], harness := (true, "3b22b4313b8e6b484da638bb556ebfe13419c0e6d4a48bc388f658af98774af6"), looks := false }, kinds := [], alts := [], laidByText := true, laidKinds := [.data], laidTests := true, laidLooks := .later }
def OctetPutsCardSaid : Prop := Claim7.holds Tryd.pinned (.plain (OpenSpec.ofChange octetPutsSpec)) octetPutsCard

/-- THE TIED CARD OF 'sextonlaw01.OctetGets'. -/
def octetGetsCard : Claim7 := { stood := { row := octetGetsRow, standIns := [], harness := (true, "3b22b4313b8e6b484da638bb556ebfe13419c0e6d4a48bc388f658af98774af6"), looks := false }, kinds := [], alts := [], laidByText := true, laidKinds := [.data], laidTests := true, laidLooks := .later }
def OctetGetsCardSaid : Prop := Claim7.holds Tryd.pinned (.plain (OpenSpec.ofChange octetGetsSpec)) octetGetsCard

/-- THE TIED CARD OF 'sextonlaw01.OctetBack'. -/
def octetBackCard : Claim7 := { stood := { row := octetBackRow, standIns := [], harness := (true, "3b22b4313b8e6b484da638bb556ebfe13419c0e6d4a48bc388f658af98774af6"), looks := false }, kinds := [], alts := [], laidByText := true, laidKinds := [.data], laidTests := true, laidLooks := .later }
def OctetBackCardSaid : Prop := Claim7.holds Tryd.pinned (.plain (OpenSpec.ofChange octetBackSpec)) octetBackCard

/-- THE TIED CARD OF 'sextonlaw01.OctetTextBack'. -/
def octetTextBackCard : Claim7 := { stood := { row := octetTextBackRow, standIns := [], harness := (true, "3b22b4313b8e6b484da638bb556ebfe13419c0e6d4a48bc388f658af98774af6"), looks := false }, kinds := [], alts := [], laidByText := true, laidKinds := [.data], laidTests := true, laidLooks := .later }
def OctetTextBackCardSaid : Prop := Claim7.holds Tryd.pinned (.plain (OpenSpec.ofChange octetTextBackSpec)) octetTextBackCard

/-- THE TIED CARD OF 'sextonlaw01.OctetLowest'. -/
def octetLowestCard : Claim7 := { stood := { row := octetLowestRow, standIns := [], harness := (true, "3b22b4313b8e6b484da638bb556ebfe13419c0e6d4a48bc388f658af98774af6"), looks := false }, kinds := [], alts := [], laidByText := true, laidKinds := [.data], laidTests := true, laidLooks := .later }
def OctetLowestCardSaid : Prop := Claim7.holds Tryd.pinned (.plain (OpenSpec.ofChange octetLowestSpec)) octetLowestCard

/-- THE TIED CARD OF 'sextonlaw01.OctetShort'. -/
def octetShortCard : Claim7 := { stood := { row := octetShortRow, standIns := [], harness := (true, "3b22b4313b8e6b484da638bb556ebfe13419c0e6d4a48bc388f658af98774af6"), looks := false }, kinds := [], alts := [], laidByText := true, laidKinds := [.data], laidTests := true, laidLooks := .later }
def OctetShortCardSaid : Prop := Claim7.holds Tryd.pinned (.plain (OpenSpec.ofChange octetShortSpec)) octetShortCard

/-- THE SECOND FORM's CARD OF 'sextonlaw01.OctetPuts'. -/
def octetPutsUptoCard : Claim7 := { stood := { row := octetPutsUptoRow, standIns := [], harness := (true, "3b22b4313b8e6b484da638bb556ebfe13419c0e6d4a48bc388f658af98774af6"), looks := false }, kinds := [], alts := [], laidByText := true, laidKinds := [.data], laidTests := true, laidLooks := .later }
def OctetPutsUptoCardSaid : Prop := Claim7.holds Tryd.pinned (.plain (OpenSpec.upto octetPutsSpec)) octetPutsUptoCard

/-- THE SECOND FORM's CARD OF 'sextonlaw01.OctetGets'. -/
def octetGetsUptoCard : Claim7 := { stood := { row := octetGetsUptoRow, standIns := [], harness := (true, "3b22b4313b8e6b484da638bb556ebfe13419c0e6d4a48bc388f658af98774af6"), looks := false }, kinds := [], alts := [], laidByText := true, laidKinds := [.data], laidTests := true, laidLooks := .later }
def OctetGetsUptoCardSaid : Prop := Claim7.holds Tryd.pinned (.plain (OpenSpec.upto octetGetsSpec)) octetGetsUptoCard

/-- THE SECOND FORM's CARD OF 'sextonlaw01.OctetBack'. -/
def octetBackUptoCard : Claim7 := { stood := { row := octetBackUptoRow, standIns := [], harness := (true, "3b22b4313b8e6b484da638bb556ebfe13419c0e6d4a48bc388f658af98774af6"), looks := false }, kinds := [], alts := [], laidByText := true, laidKinds := [.data], laidTests := true, laidLooks := .later }
def OctetBackUptoCardSaid : Prop := Claim7.holds Tryd.pinned (.plain (OpenSpec.upto octetBackSpec)) octetBackUptoCard

/-- THE SECOND FORM's CARD OF 'sextonlaw01.OctetTextBack'. -/
def octetTextBackUptoCard : Claim7 := { stood := { row := octetTextBackUptoRow, standIns := [], harness := (true, "3b22b4313b8e6b484da638bb556ebfe13419c0e6d4a48bc388f658af98774af6"), looks := false }, kinds := [], alts := [], laidByText := true, laidKinds := [.data], laidTests := true, laidLooks := .later }
def OctetTextBackUptoCardSaid : Prop := Claim7.holds Tryd.pinned (.plain (OpenSpec.upto octetTextBackSpec)) octetTextBackUptoCard

/-- THE SECOND FORM's CARD OF 'sextonlaw01.OctetLowest'. -/
def octetLowestUptoCard : Claim7 := { stood := { row := octetLowestUptoRow, standIns := [], harness := (true, "3b22b4313b8e6b484da638bb556ebfe13419c0e6d4a48bc388f658af98774af6"), looks := false }, kinds := [], alts := [], laidByText := true, laidKinds := [.data], laidTests := true, laidLooks := .later }
def OctetLowestUptoCardSaid : Prop := Claim7.holds Tryd.pinned (.plain (OpenSpec.upto octetLowestSpec)) octetLowestUptoCard

/-- THE SECOND FORM's CARD OF 'sextonlaw01.OctetShort'. -/
def octetShortUptoCard : Claim7 := { stood := { row := octetShortUptoRow, standIns := [], harness := (true, "3b22b4313b8e6b484da638bb556ebfe13419c0e6d4a48bc388f658af98774af6"), looks := false }, kinds := [], alts := [], laidByText := true, laidKinds := [.data], laidTests := true, laidLooks := .later }
def OctetShortUptoCardSaid : Prop := Claim7.holds Tryd.pinned (.plain (OpenSpec.upto octetShortSpec)) octetShortUptoCard
end Rows
end Go.Proofs.YtcnjhblboedbpaaDoor
