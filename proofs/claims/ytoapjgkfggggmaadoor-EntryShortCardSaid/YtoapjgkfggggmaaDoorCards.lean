/-
  DERIVED. GIVEN WITH THE SEED: THE CARDS: each row of YtoapjgkfggggmaaDoorRows.lean that lists a variable, with what it lists TIED to the program's text (the seventh form; the later family's looks); each row that meets fmt, with fmt's text TOLD by the authors' own Lean function (tested against real Go, not proved from fmt's source: count such statements apart). THE CARD IS WHAT COUNTS. Prove the row's statement (the work); the ties are given (YtoapjgkfggggmaaDoorTie.lean); close each card by the builder's one call (the guide's Derived/Test/ToyasCard.lean, 'card_holds'). Laid BY PROGRAM, IN A SANDBOX (cutbox-door.mjs). By AI agents, Wed Nov 11 2026. No macro, syntax, notation, axiom, sorry.
-/
import Derived.Test.YtoapjgkfggggmaaDoorRows
import GoSem.ClaimSeven
namespace Go.Proofs.YtoapjgkfggggmaaDoor
namespace Rows

/-- THE TIED CARD OF 'sextonlaw09.EntryForms'. -/
def entryFormsCard : Claim7 := { stood := { row := entryFormsRow, standIns := [], harness := (true, "7d4d0ffa93c05697a9da7d3ca2bafccddf26b2b8b664b0ad035dd16b9a7cc9da"), looks := false }, kinds := [], alts := [], laidByText := true, laidKinds := [.data], laidTests := true, laidLooks := .later }
def EntryFormsCardSaid : Prop := Claim7.holds Tryd.pinned (.plain (OpenSpec.ofChange entryFormsSpec)) entryFormsCard

/-- THE TIED CARD OF 'sextonlaw09.EntryReads'. -/
def entryReadsCard : Claim7 := { stood := { row := entryReadsRow, standIns := [], harness := (true, "7d4d0ffa93c05697a9da7d3ca2bafccddf26b2b8b664b0ad035dd16b9a7cc9da"), looks := false }, kinds := [], alts := [], laidByText := true, laidKinds := [.data], laidTests := true, laidLooks := .later }
def EntryReadsCardSaid : Prop := Claim7.holds Tryd.pinned (.plain (OpenSpec.ofChange entryReadsSpec)) entryReadsCard

/-- THE TIED CARD OF 'sextonlaw09.EntryBack'. -/
def entryBackCard : Claim7 := { stood := { row := entryBackRow, standIns := [], harness := (true, "7d4d0ffa93c05697a9da7d3ca2bafccddf26b2b8b664b0ad035dd16b9a7cc9da"), looks := false }, kinds := [], alts := [], laidByText := true, laidKinds := [.data], laidTests := true, laidLooks := .later }
def EntryBackCardSaid : Prop := Claim7.holds Tryd.pinned (.plain (OpenSpec.ofChange entryBackSpec)) entryBackCard

/-- THE TIED CARD OF 'sextonlaw09.EntryRow'. -/
def entryRowCard : Claim7 := { stood := { row := entryRowRow, standIns := [], harness := (true, "7d4d0ffa93c05697a9da7d3ca2bafccddf26b2b8b664b0ad035dd16b9a7cc9da"), looks := false }, kinds := [], alts := [], laidByText := true, laidKinds := [.data], laidTests := true, laidLooks := .later }
def EntryRowCardSaid : Prop := Claim7.holds Tryd.pinned (.plain (OpenSpec.ofChange entryRowSpec)) entryRowCard

/-- THE TIED CARD OF 'sextonlaw09.EntryOthers'. -/
def entryOthersCard : Claim7 := { stood := { row := entryOthersRow, standIns := [], harness := (true, "7d4d0ffa93c05697a9da7d3ca2bafccddf26b2b8b664b0ad035dd16b9a7cc9da"), looks := false }, kinds := [], alts := [], laidByText := true, laidKinds := [.data], laidTests := true, laidLooks := .later }
def EntryOthersCardSaid : Prop := Claim7.holds Tryd.pinned (.plain (OpenSpec.ofChange entryOthersSpec)) entryOthersCard

/-- THE TIED CARD OF 'sextonlaw09.EntryShort'. -/
def entryShortCard : Claim7 := { stood := { row := entryShortRow, standIns := [], harness := (true, "7d4d0ffa93c05697a9da7d3ca2bafccddf26b2b8b664b0ad035dd16b9a7cc9da"), looks := false }, kinds := [], alts := [], laidByText := true, laidKinds := [.data], laidTests := true, laidLooks := .later }
def EntryShortCardSaid : Prop := Claim7.holds Tryd.pinned (.plain (OpenSpec.ofChange entryShortSpec)) entryShortCard

/-- THE SECOND FORM's CARD OF 'sextonlaw09.EntryForms'. -/
def entryFormsUptoCard : Claim7 := { stood := { row := entryFormsUptoRow, standIns := [], harness := (true, "7d4d0ffa93c05697a9da7d3ca2bafccddf26b2b8b664b0ad035dd16b9a7cc9da"), looks := false }, kinds := [], alts := [], laidByText := true, laidKinds := [.data], laidTests := true, laidLooks := .later }
def EntryFormsUptoCardSaid : Prop := Claim7.holds Tryd.pinned (.plain (OpenSpec.upto entryFormsSpec)) entryFormsUptoCard

/-- THE SECOND FORM's CARD OF 'sextonlaw09.EntryReads'. -/
def entryReadsUptoCard : Claim7 := { stood := { row := entryReadsUptoRow, standIns := [], harness := (true, "7d4d0ffa93c05697a9da7d3ca2bafccddf26b2b8b664b0ad035dd16b9a7cc9da"), looks := false }, kinds := [], alts := [], laidByText := true, laidKinds := [.data], laidTests := true, laidLooks := .later }
def EntryReadsUptoCardSaid : Prop := Claim7.holds Tryd.pinned (.plain (OpenSpec.upto entryReadsSpec)) entryReadsUptoCard

/-- THE SECOND FORM's CARD OF 'sextonlaw09.EntryBack'. -/
def entryBackUptoCard : Claim7 := { stood := { row := entryBackUptoRow, standIns := [], harness := (true, "7d4d0ffa93c05697a9da7d3ca2bafccddf26b2b8b664b0ad035dd16b9a7cc9da"), looks := false }, kinds := [], alts := [], laidByText := true, laidKinds := [.data], laidTests := true, laidLooks := .later }
def EntryBackUptoCardSaid : Prop := Claim7.holds Tryd.pinned (.plain (OpenSpec.upto entryBackSpec)) entryBackUptoCard

/-- THE SECOND FORM's CARD OF 'sextonlaw09.EntryRow'. -/
def entryRowUptoCard : Claim7 := { stood := { row := entryRowUptoRow, standIns := [], harness := (true, "7d4d0ffa93c05697a9da7d3ca2bafccddf26b2b8b664b0ad035dd16b9a7cc9da"), looks := false }, kinds := [], alts := [], laidByText := true, laidKinds := [.data], laidTests := true, laidLooks := .later }
def EntryRowUptoCardSaid : Prop := Claim7.holds Tryd.pinned (.plain (OpenSpec.upto entryRowSpec)) entryRowUptoCard

/-- THE SECOND FORM's CARD OF 'sextonlaw09.EntryOthers'. -/
def entryOthersUptoCard : Claim7 := { stood := { row := entryOthersUptoRow, standIns := [], harness := (true, "7d4d0ffa93c05697a9da7d3ca2bafccddf26b2b8b664b0ad035dd16b9a7cc9da"), looks := false }, kinds := [], alts := [], laidByText := true, laidKinds := [.data], laidTests := true, laidLooks := .later }
def EntryOthersUptoCardSaid : Prop := Claim7.holds Tryd.pinned (.plain (OpenSpec.upto entryOthersSpec)) entryOthersUptoCard

/-- THE SECOND FORM's CARD OF 'sextonlaw09.EntryShort'. -/
def entryShortUptoCard : Claim7 := { stood := { row := entryShortUptoRow, standIns := [], harness := (true, "7d4d0ffa93c05697a9da7d3ca2bafccddf26b2b8b664b0ad035dd16b9a7cc9da"), looks := false }, kinds := [], alts := [], laidByText := true, laidKinds := [.data], laidTests := true, laidLooks := .later }
def EntryShortUptoCardSaid : Prop := Claim7.holds Tryd.pinned (.plain (OpenSpec.upto entryShortSpec)) entryShortUptoCard
end Rows
end Go.Proofs.YtoapjgkfggggmaaDoor
