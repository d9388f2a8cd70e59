/-
  DERIVED. GIVEN WITH THE SEED: THE CARDS: each row of YtlikhmhomkiadaaDoorRows.lean that lists a variable, with what it lists TIED to the program's text (the seventh form; the later family's looks); each row that meets fmt, with fmt's text TOLD by the authors' own Lean function (tested against real Go, not proved from fmt's source: count such statements apart). THE CARD IS WHAT COUNTS. Prove the row's statement (the work); the ties are given (YtlikhmhomkiadaaDoorTie.lean); close each card by the builder's one call (the guide's Derived/Test/ToyasCard.lean, 'card_holds'). Laid BY PROGRAM, IN A SANDBOX (cutbox-door.mjs). By AI agents, Wed Nov 11 2026. No macro, syntax, notation, axiom, sorry.
-/
import Derived.Test.YtlikhmhomkiadaaDoorRows
import GoSem.ClaimSeven
namespace Go.Proofs.YtlikhmhomkiadaaDoor
namespace Rows

/-- THE TIED CARD OF 'sextonlaw08.MetaForms'. -/
def metaFormsCard : Claim7 := { stood := { row := metaFormsRow, standIns := [], harness := (true, "f393e9facc8c82e2e663f4bb1f5cffcce25cce6abfaf104dda77b2b7b9021d5e"), looks := false }, kinds := [], alts := [], laidByText := true, laidKinds := [.data], laidTests := true, laidLooks := .later }
def MetaFormsCardSaid : Prop := Claim7.holds Tryd.pinned (.plain (OpenSpec.ofChange metaFormsSpec)) metaFormsCard

/-- THE TIED CARD OF 'sextonlaw08.MetaBack'. -/
def metaBackCard : Claim7 := { stood := { row := metaBackRow, standIns := [], harness := (true, "f393e9facc8c82e2e663f4bb1f5cffcce25cce6abfaf104dda77b2b7b9021d5e"), looks := false }, kinds := [], alts := [], laidByText := true, laidKinds := [.data, .data, .data, .data], laidTests := true, laidLooks := .later }
def MetaBackCardSaid : Prop := Claim7.holds Tryd.pinned (.plain (OpenSpec.ofChange metaBackSpec)) metaBackCard

/-- THE TIED CARD OF 'sextonlaw08.MetaRises'. -/
def metaRisesCard : Claim7 := { stood := { row := metaRisesRow, standIns := [], harness := (true, "f393e9facc8c82e2e663f4bb1f5cffcce25cce6abfaf104dda77b2b7b9021d5e"), looks := false }, kinds := [], alts := [], laidByText := true, laidKinds := [.data, .data, .data, .data], laidTests := true, laidLooks := .later }
def MetaRisesCardSaid : Prop := Claim7.holds Tryd.pinned (.plain (OpenSpec.ofChange metaRisesSpec)) metaRisesCard

/-- THE TIED CARD OF 'sextonlaw08.MetaDamage'. -/
def metaDamageCard : Claim7 := { stood := { row := metaDamageRow, standIns := [], harness := (true, "f393e9facc8c82e2e663f4bb1f5cffcce25cce6abfaf104dda77b2b7b9021d5e"), looks := false }, kinds := [], alts := [], laidByText := true, laidKinds := [.data, .data, .data, .data], laidTests := true, laidLooks := .later }
def MetaDamageCardSaid : Prop := Claim7.holds Tryd.pinned (.plain (OpenSpec.ofChange metaDamageSpec)) metaDamageCard

/-- THE SECOND FORM's CARD OF 'sextonlaw08.MetaForms'. -/
def metaFormsUptoCard : Claim7 := { stood := { row := metaFormsUptoRow, standIns := [], harness := (true, "f393e9facc8c82e2e663f4bb1f5cffcce25cce6abfaf104dda77b2b7b9021d5e"), looks := false }, kinds := [], alts := [], laidByText := true, laidKinds := [.data], laidTests := true, laidLooks := .later }
def MetaFormsUptoCardSaid : Prop := Claim7.holds Tryd.pinned (.plain (OpenSpec.upto metaFormsSpec)) metaFormsUptoCard

/-- THE SECOND FORM's CARD OF 'sextonlaw08.MetaBack'. -/
def metaBackUptoCard : Claim7 := { stood := { row := metaBackUptoRow, standIns := [], harness := (true, "f393e9facc8c82e2e663f4bb1f5cffcce25cce6abfaf104dda77b2b7b9021d5e"), looks := false }, kinds := [], alts := [], laidByText := true, laidKinds := [.data, .data, .data, .data], laidTests := true, laidLooks := .later }
def MetaBackUptoCardSaid : Prop := Claim7.holds Tryd.pinned (.plain (OpenSpec.upto metaBackSpec)) metaBackUptoCard

/-- THE SECOND FORM's CARD OF 'sextonlaw08.MetaRises'. -/
def metaRisesUptoCard : Claim7 := { stood := { row := metaRisesUptoRow, standIns := [], harness := (true, "f393e9facc8c82e2e663f4bb1f5cffcce25cce6abfaf104dda77b2b7b9021d5e"), looks := false }, kinds := [], alts := [], laidByText := true, laidKinds := [.data, .data, .data, .data], laidTests := true, laidLooks := .later }
def MetaRisesUptoCardSaid : Prop := Claim7.holds Tryd.pinned (.plain (OpenSpec.upto metaRisesSpec)) metaRisesUptoCard

/-- THE SECOND FORM's CARD OF 'sextonlaw08.MetaDamage'. -/
def metaDamageUptoCard : Claim7 := { stood := { row := metaDamageUptoRow, standIns := [], harness := (true, "f393e9facc8c82e2e663f4bb1f5cffcce25cce6abfaf104dda77b2b7b9021d5e"), looks := false }, kinds := [], alts := [], laidByText := true, laidKinds := [.data, .data, .data, .data], laidTests := true, laidLooks := .later }
def MetaDamageUptoCardSaid : Prop := Claim7.holds Tryd.pinned (.plain (OpenSpec.upto metaDamageSpec)) metaDamageUptoCard
end Rows
end Go.Proofs.YtlikhmhomkiadaaDoor
