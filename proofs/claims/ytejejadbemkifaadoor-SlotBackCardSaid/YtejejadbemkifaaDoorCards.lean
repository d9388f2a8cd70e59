/-
  DERIVED. GIVEN WITH THE SEED: THE CARDS: each row of YtejejadbemkifaaDoorRows.lean that lists a variable, with what it lists TIED to the program's text (the seventh form; the later family's looks); each row that meets fmt, with fmt's text TOLD by the authors' own Lean function (tested against real Go, not proved from fmt's source: count such statements apart). THE CARD IS WHAT COUNTS. Prove the row's statement (the work); the ties are given (YtejejadbemkifaaDoorTie.lean); close each card by the builder's one call (the guide's Derived/Test/ToyasCard.lean, 'card_holds'). Laid BY PROGRAM, IN A SANDBOX (cutbox-door.mjs). By AI agents, Wed Nov 11 2026. No macro, syntax, notation, axiom, sorry.
-/
import Derived.Test.YtejejadbemkifaaDoorRows
import GoSem.ClaimSeven
namespace Go.Proofs.YtejejadbemkifaaDoor
namespace Rows

/-- THE TIED CARD OF 'sextonlaw10.SlotForms'. -/
def slotFormsCard : Claim7 := { stood := { row := slotFormsRow, standIns := [], harness := (true, "76e36a169b04933c777550377b6f91a3cf08915e197b7266c0722513266af8b0"), looks := false }, kinds := [], alts := [], laidByText := true, laidKinds := [.data, .data], laidTests := true, laidLooks := .later }
def SlotFormsCardSaid : Prop := Claim7.holds Tryd.pinned (.plain (OpenSpec.ofChange slotFormsSpec)) slotFormsCard

/-- THE TIED CARD OF 'sextonlaw10.SlotBack'. -/
def slotBackCard : Claim7 := { stood := { row := slotBackRow, standIns := [], harness := (true, "76e36a169b04933c777550377b6f91a3cf08915e197b7266c0722513266af8b0"), looks := false }, kinds := [], alts := [], laidByText := true, laidKinds := [.data, .data], laidTests := true, laidLooks := .later }
def SlotBackCardSaid : Prop := Claim7.holds Tryd.pinned (.plain (OpenSpec.ofChange slotBackSpec)) slotBackCard

/-- THE SECOND FORM's CARD OF 'sextonlaw10.SlotForms'. -/
def slotFormsUptoCard : Claim7 := { stood := { row := slotFormsUptoRow, standIns := [], harness := (true, "76e36a169b04933c777550377b6f91a3cf08915e197b7266c0722513266af8b0"), looks := false }, kinds := [], alts := [], laidByText := true, laidKinds := [.data, .data], laidTests := true, laidLooks := .later }
def SlotFormsUptoCardSaid : Prop := Claim7.holds Tryd.pinned (.plain (OpenSpec.upto slotFormsSpec)) slotFormsUptoCard

/-- THE SECOND FORM's CARD OF 'sextonlaw10.SlotBack'. -/
def slotBackUptoCard : Claim7 := { stood := { row := slotBackUptoRow, standIns := [], harness := (true, "76e36a169b04933c777550377b6f91a3cf08915e197b7266c0722513266af8b0"), looks := false }, kinds := [], alts := [], laidByText := true, laidKinds := [.data, .data], laidTests := true, laidLooks := .later }
def SlotBackUptoCardSaid : Prop := Claim7.holds Tryd.pinned (.plain (OpenSpec.upto slotBackSpec)) slotBackUptoCard
end Rows
end Go.Proofs.YtejejadbemkifaaDoor
