/-
  DERIVED. GIVEN WITH THE SEED: THE CARDS: each row of YtnlappoocffcpaaDoorRows.lean that lists a variable, with what it lists TIED to the program's text (the seventh form; the later family's looks); each row that meets fmt, with fmt's text TOLD by the authors' own Lean function (tested against real Go, not proved from fmt's source: count such statements apart). THE CARD IS WHAT COUNTS. Prove the row's statement (the work); the ties are given (YtnlappoocffcpaaDoorTie.lean); close each card by the builder's one call (the guide's Derived/Test/ToyasCard.lean, 'card_holds'). Laid BY PROGRAM, IN A SANDBOX (cutbox-door.mjs). By AI agents, Wed Nov 11 2026. No macro, syntax, notation, axiom, sorry.
-/
import Derived.Test.YtnlappoocffcpaaDoorRows
import GoSem.ClaimSeven
namespace Go.Proofs.YtnlappoocffcpaaDoor
namespace Rows

/-- THE TIED CARD OF 'sextonlaw12.ChunkBodies'. -/
def chunkBodiesCard : Claim7 := { stood := { row := chunkBodiesRow, standIns := [], harness := (true, "10e4023fb4d4cd3a2e1a8ada06415fada90beeeef1b50a636346a2c454617a04"), looks := false }, kinds := [], alts := [], laidByText := true, laidKinds := [.data], laidTests := true, laidLooks := .later }
def ChunkBodiesCardSaid : Prop := Claim7.holds Tryd.pinned (.plain (OpenSpec.ofChange chunkBodiesSpec)) chunkBodiesCard

/-- THE TIED CARD OF 'sextonlaw12.ChunkBodyBack'. -/
def chunkBodyBackCard : Claim7 := { stood := { row := chunkBodyBackRow, standIns := [], harness := (true, "10e4023fb4d4cd3a2e1a8ada06415fada90beeeef1b50a636346a2c454617a04"), looks := false }, kinds := [], alts := [], laidByText := true, laidKinds := [.data], laidTests := true, laidLooks := .later }
def ChunkBodyBackCardSaid : Prop := Claim7.holds Tryd.pinned (.plain (OpenSpec.ofChange chunkBodyBackSpec)) chunkBodyBackCard

/-- THE SECOND FORM's CARD OF 'sextonlaw12.ChunkBodies'. -/
def chunkBodiesUptoCard : Claim7 := { stood := { row := chunkBodiesUptoRow, standIns := [], harness := (true, "10e4023fb4d4cd3a2e1a8ada06415fada90beeeef1b50a636346a2c454617a04"), looks := false }, kinds := [], alts := [], laidByText := true, laidKinds := [.data], laidTests := true, laidLooks := .later }
def ChunkBodiesUptoCardSaid : Prop := Claim7.holds Tryd.pinned (.plain (OpenSpec.upto chunkBodiesSpec)) chunkBodiesUptoCard

/-- THE SECOND FORM's CARD OF 'sextonlaw12.ChunkBodyBack'. -/
def chunkBodyBackUptoCard : Claim7 := { stood := { row := chunkBodyBackUptoRow, standIns := [], harness := (true, "10e4023fb4d4cd3a2e1a8ada06415fada90beeeef1b50a636346a2c454617a04"), looks := false }, kinds := [], alts := [], laidByText := true, laidKinds := [.data], laidTests := true, laidLooks := .later }
def ChunkBodyBackUptoCardSaid : Prop := Claim7.holds Tryd.pinned (.plain (OpenSpec.upto chunkBodyBackSpec)) chunkBodyBackUptoCard
end Rows
end Go.Proofs.YtnlappoocffcpaaDoor
