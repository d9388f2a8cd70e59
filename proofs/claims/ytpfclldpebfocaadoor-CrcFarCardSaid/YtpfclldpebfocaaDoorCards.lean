/-
  DERIVED. GIVEN WITH THE SEED: THE CARDS: each row of YtpfclldpebfocaaDoorRows.lean that lists a variable, with what it lists TIED to the program's text (the seventh form; the later family's looks); each row that meets fmt, with fmt's text TOLD by the authors' own Lean function (tested against real Go, not proved from fmt's source: count such statements apart). THE CARD IS WHAT COUNTS. Prove the row's statement (the work); the ties are given (YtpfclldpebfocaaDoorTie.lean); close each card by the builder's one call (the guide's Derived/Test/ToyasCard.lean, 'card_holds'). Laid BY PROGRAM, IN A SANDBOX (cutbox-door.mjs). By AI agents, Wed Nov 11 2026. No macro, syntax, notation, axiom, sorry.
-/
import Derived.Test.YtpfclldpebfocaaDoorRows
import GoSem.ClaimSeven
namespace Go.Proofs.YtpfclldpebfocaaDoor
namespace Rows

/-- THE TIED CARD OF 'sextonlaw02.CrcSums'. -/
def crcSumsCard : Claim7 := { stood := { row := crcSumsRow, standIns := [], harness := (true, "383a63365c1808cea5a6b24d0c1fc03756c66a8d944603dec1c05213753dc2e9"), looks := false }, kinds := [], alts := [], laidByText := true, laidKinds := [.data], laidTests := true, laidLooks := .later }
def CrcSumsCardSaid : Prop := Claim7.holds Tryd.pinned (.plain (OpenSpec.ofChange crcSumsSpec)) crcSumsCard

/-- THE TIED CARD OF 'sextonlaw02.CrcParts'. -/
def crcPartsCard : Claim7 := { stood := { row := crcPartsRow, standIns := [], harness := (true, "383a63365c1808cea5a6b24d0c1fc03756c66a8d944603dec1c05213753dc2e9"), looks := false }, kinds := [], alts := [], laidByText := true, laidKinds := [.data], laidTests := true, laidLooks := .later }
def CrcPartsCardSaid : Prop := Claim7.holds Tryd.pinned (.plain (OpenSpec.ofChange crcPartsSpec)) crcPartsCard

/-- THE TIED CARD OF 'sextonlaw02.CrcFar'. -/
def crcFarCard : Claim7 := { stood := { row := crcFarRow, standIns := [], harness := (true, "383a63365c1808cea5a6b24d0c1fc03756c66a8d944603dec1c05213753dc2e9"), looks := false }, kinds := [], alts := [], laidByText := true, laidKinds := [.data], laidTests := true, laidLooks := .later }
def CrcFarCardSaid : Prop := Claim7.holds Tryd.pinned (.plain (OpenSpec.ofChange crcFarSpec)) crcFarCard

/-- THE TIED CARD OF 'sextonlaw02.CrcFew'. -/
def crcFewCard : Claim7 := { stood := { row := crcFewRow, standIns := [], harness := (true, "383a63365c1808cea5a6b24d0c1fc03756c66a8d944603dec1c05213753dc2e9"), looks := false }, kinds := [], alts := [], laidByText := true, laidKinds := [.data], laidTests := true, laidLooks := .later }
def CrcFewCardSaid : Prop := Claim7.holds Tryd.pinned (.plain (OpenSpec.ofChange crcFewSpec)) crcFewCard

/-- THE TIED CARD OF 'sextonlaw02.CrcNear'. -/
def crcNearCard : Claim7 := { stood := { row := crcNearRow, standIns := [], harness := (true, "383a63365c1808cea5a6b24d0c1fc03756c66a8d944603dec1c05213753dc2e9"), looks := false }, kinds := [], alts := [], laidByText := true, laidKinds := [.data], laidTests := true, laidLooks := .later }
def CrcNearCardSaid : Prop := Claim7.holds Tryd.pinned (.plain (OpenSpec.ofChange crcNearSpec)) crcNearCard

/-- THE TIED CARD OF 'sextonlaw02.CrcOdd'. -/
def crcOddCard : Claim7 := { stood := { row := crcOddRow, standIns := [], harness := (true, "383a63365c1808cea5a6b24d0c1fc03756c66a8d944603dec1c05213753dc2e9"), looks := false }, kinds := [], alts := [], laidByText := true, laidKinds := [.data], laidTests := true, laidLooks := .later }
def CrcOddCardSaid : Prop := Claim7.holds Tryd.pinned (.plain (OpenSpec.ofChange crcOddSpec)) crcOddCard

/-- THE TIED CARD OF 'sextonlaw02.CrcTogether'. -/
def crcTogetherCard : Claim7 := { stood := { row := crcTogetherRow, standIns := [], harness := (true, "383a63365c1808cea5a6b24d0c1fc03756c66a8d944603dec1c05213753dc2e9"), looks := false }, kinds := [], alts := [], laidByText := true, laidKinds := [.data], laidTests := true, laidLooks := .later }
def CrcTogetherCardSaid : Prop := Claim7.holds Tryd.pinned (.plain (OpenSpec.ofChange crcTogetherSpec)) crcTogetherCard

/-- THE SECOND FORM's CARD OF 'sextonlaw02.CrcSums'. -/
def crcSumsUptoCard : Claim7 := { stood := { row := crcSumsUptoRow, standIns := [], harness := (true, "383a63365c1808cea5a6b24d0c1fc03756c66a8d944603dec1c05213753dc2e9"), looks := false }, kinds := [], alts := [], laidByText := true, laidKinds := [.data], laidTests := true, laidLooks := .later }
def CrcSumsUptoCardSaid : Prop := Claim7.holds Tryd.pinned (.plain (OpenSpec.upto crcSumsSpec)) crcSumsUptoCard

/-- THE SECOND FORM's CARD OF 'sextonlaw02.CrcParts'. -/
def crcPartsUptoCard : Claim7 := { stood := { row := crcPartsUptoRow, standIns := [], harness := (true, "383a63365c1808cea5a6b24d0c1fc03756c66a8d944603dec1c05213753dc2e9"), looks := false }, kinds := [], alts := [], laidByText := true, laidKinds := [.data], laidTests := true, laidLooks := .later }
def CrcPartsUptoCardSaid : Prop := Claim7.holds Tryd.pinned (.plain (OpenSpec.upto crcPartsSpec)) crcPartsUptoCard

/-- THE SECOND FORM's CARD OF 'sextonlaw02.CrcFar'. -/
def crcFarUptoCard : Claim7 := { stood := { row := crcFarUptoRow, standIns := [], harness := (true, "383a63365c1808cea5a6b24d0c1fc03756c66a8d944603dec1c05213753dc2e9"), looks := false }, kinds := [], alts := [], laidByText := true, laidKinds := [.data], laidTests := true, laidLooks := .later }
def CrcFarUptoCardSaid : Prop := Claim7.holds Tryd.pinned (.plain (OpenSpec.upto crcFarSpec)) crcFarUptoCard

/-- THE SECOND FORM's CARD OF 'sextonlaw02.CrcFew'. -/
def crcFewUptoCard : Claim7 := { stood := { row := crcFewUptoRow, standIns := [], harness := (true, "383a63365c1808cea5a6b24d0c1fc03756c66a8d944603dec1c05213753dc2e9"), looks := false }, kinds := [], alts := [], laidByText := true, laidKinds := [.data], laidTests := true, laidLooks := .later }
def CrcFewUptoCardSaid : Prop := Claim7.holds Tryd.pinned (.plain (OpenSpec.upto crcFewSpec)) crcFewUptoCard

/-- THE SECOND FORM's CARD OF 'sextonlaw02.CrcNear'. -/
def crcNearUptoCard : Claim7 := { stood := { row := crcNearUptoRow, standIns := [], harness := (true, "383a63365c1808cea5a6b24d0c1fc03756c66a8d944603dec1c05213753dc2e9"), looks := false }, kinds := [], alts := [], laidByText := true, laidKinds := [.data], laidTests := true, laidLooks := .later }
def CrcNearUptoCardSaid : Prop := Claim7.holds Tryd.pinned (.plain (OpenSpec.upto crcNearSpec)) crcNearUptoCard

/-- THE SECOND FORM's CARD OF 'sextonlaw02.CrcOdd'. -/
def crcOddUptoCard : Claim7 := { stood := { row := crcOddUptoRow, standIns := [], harness := (true, "383a63365c1808cea5a6b24d0c1fc03756c66a8d944603dec1c05213753dc2e9"), looks := false }, kinds := [], alts := [], laidByText := true, laidKinds := [.data], laidTests := true, laidLooks := .later }
def CrcOddUptoCardSaid : Prop := Claim7.holds Tryd.pinned (.plain (OpenSpec.upto crcOddSpec)) crcOddUptoCard

/-- THE SECOND FORM's CARD OF 'sextonlaw02.CrcTogether'. -/
def crcTogetherUptoCard : Claim7 := { stood := { row := crcTogetherUptoRow, standIns := [], harness := (true, "383a63365c1808cea5a6b24d0c1fc03756c66a8d944603dec1c05213753dc2e9"), looks := false }, kinds := [], alts := [], laidByText := true, laidKinds := [.data], laidTests := true, laidLooks := .later }
def CrcTogetherUptoCardSaid : Prop := Claim7.holds Tryd.pinned (.plain (OpenSpec.upto crcTogetherSpec)) crcTogetherUptoCard
end Rows
end Go.Proofs.YtpfclldpebfocaaDoor
