/-
  DERIVED. GIVEN WITH THE SEED: THE CARDS: each row of YtldgamgdbneneaaDoorRows.lean that lists a variable, with what it lists TIED to the program's text (the seventh form; the later family's looks); each row that meets fmt, with fmt's text TOLD by the authors' own Lean function (tested against real Go, not proved from fmt's source: count such statements apart). THE CARD IS WHAT COUNTS. Prove the row's statement (the work); the ties are given (YtldgamgdbneneaaDoorTie.lean); close each card by the builder's one call (the guide's Derived/Test/ToyasCard.lean, 'card_holds'). Laid BY PROGRAM, IN A SANDBOX (cutbox-door.mjs). By AI agents, Wed Nov 11 2026. No macro, syntax, notation, axiom, sorry.
-/
import Derived.Test.YtldgamgdbneneaaDoorRows
import GoSem.ClaimSeven
namespace Go.Proofs.YtldgamgdbneneaaDoor
namespace Rows

/-- THE TIED CARD OF 'sextonlaw06.GhostNone'. -/
def ghostNoneCard : Claim7 := { stood := { row := ghostNoneRow, standIns := [], harness := (true, "c4d5c5dd8dba51e74d91eefe7615c01bee2b3fbd6075109c8e1fbfe776d82c6a"), looks := false }, kinds := [], alts := [], laidByText := true, laidKinds := [.data, .data, .data, .data], laidTests := true, laidLooks := .later }
def GhostNoneCardSaid : Prop := Claim7.holds Tryd.pinned (.plain (OpenSpec.ofChange ghostNoneSpec)) ghostNoneCard

/-- THE TIED CARD OF 'sextonlaw06.GhostNothing'. -/
def ghostNothingCard : Claim7 := { stood := { row := ghostNothingRow, standIns := [], harness := (true, "c4d5c5dd8dba51e74d91eefe7615c01bee2b3fbd6075109c8e1fbfe776d82c6a"), looks := false }, kinds := [], alts := [], laidByText := true, laidKinds := [.data, .data, .data, .data], laidTests := true, laidLooks := .later }
def GhostNothingCardSaid : Prop := Claim7.holds Tryd.pinned (.plain (OpenSpec.ofChange ghostNothingSpec)) ghostNothingCard

/-- THE TIED CARD OF 'sextonlaw06.GhostHonest'. -/
def ghostHonestCard : Claim7 := { stood := { row := ghostHonestRow, standIns := [], harness := (true, "c4d5c5dd8dba51e74d91eefe7615c01bee2b3fbd6075109c8e1fbfe776d82c6a"), looks := false }, kinds := [], alts := [], laidByText := true, laidKinds := [.data, .data, .data, .data], laidTests := true, laidLooks := .later }
def GhostHonestCardSaid : Prop := Claim7.holds Tryd.pinned (.plain (OpenSpec.ofChange ghostHonestSpec)) ghostHonestCard

/-- THE TIED CARD OF 'sextonlaw06.GhostHealed'. -/
def ghostHealedCard : Claim7 := { stood := { row := ghostHealedRow, standIns := [], harness := (true, "c4d5c5dd8dba51e74d91eefe7615c01bee2b3fbd6075109c8e1fbfe776d82c6a"), looks := false }, kinds := [], alts := [], laidByText := true, laidKinds := [.data, .data, .data, .data], laidTests := true, laidLooks := .later }
def GhostHealedCardSaid : Prop := Claim7.holds Tryd.pinned (.plain (OpenSpec.ofChange ghostHealedSpec)) ghostHealedCard

/-- THE SECOND FORM's CARD OF 'sextonlaw06.GhostNone'. -/
def ghostNoneUptoCard : Claim7 := { stood := { row := ghostNoneUptoRow, standIns := [], harness := (true, "c4d5c5dd8dba51e74d91eefe7615c01bee2b3fbd6075109c8e1fbfe776d82c6a"), looks := false }, kinds := [], alts := [], laidByText := true, laidKinds := [.data, .data, .data, .data], laidTests := true, laidLooks := .later }
def GhostNoneUptoCardSaid : Prop := Claim7.holds Tryd.pinned (.plain (OpenSpec.upto ghostNoneSpec)) ghostNoneUptoCard

/-- THE SECOND FORM's CARD OF 'sextonlaw06.GhostNothing'. -/
def ghostNothingUptoCard : Claim7 := { stood := { row := ghostNothingUptoRow, standIns := [], harness := (true, "c4d5c5dd8dba51e74d91eefe7615c01bee2b3fbd6075109c8e1fbfe776d82c6a"), looks := false }, kinds := [], alts := [], laidByText := true, laidKinds := [.data, .data, .data, .data], laidTests := true, laidLooks := .later }
def GhostNothingUptoCardSaid : Prop := Claim7.holds Tryd.pinned (.plain (OpenSpec.upto ghostNothingSpec)) ghostNothingUptoCard

/-- THE SECOND FORM's CARD OF 'sextonlaw06.GhostHonest'. -/
def ghostHonestUptoCard : Claim7 := { stood := { row := ghostHonestUptoRow, standIns := [], harness := (true, "c4d5c5dd8dba51e74d91eefe7615c01bee2b3fbd6075109c8e1fbfe776d82c6a"), looks := false }, kinds := [], alts := [], laidByText := true, laidKinds := [.data, .data, .data, .data], laidTests := true, laidLooks := .later }
def GhostHonestUptoCardSaid : Prop := Claim7.holds Tryd.pinned (.plain (OpenSpec.upto ghostHonestSpec)) ghostHonestUptoCard

/-- THE SECOND FORM's CARD OF 'sextonlaw06.GhostHealed'. -/
def ghostHealedUptoCard : Claim7 := { stood := { row := ghostHealedUptoRow, standIns := [], harness := (true, "c4d5c5dd8dba51e74d91eefe7615c01bee2b3fbd6075109c8e1fbfe776d82c6a"), looks := false }, kinds := [], alts := [], laidByText := true, laidKinds := [.data, .data, .data, .data], laidTests := true, laidLooks := .later }
def GhostHealedUptoCardSaid : Prop := Claim7.holds Tryd.pinned (.plain (OpenSpec.upto ghostHealedSpec)) ghostHealedUptoCard
end Rows
end Go.Proofs.YtldgamgdbneneaaDoor
